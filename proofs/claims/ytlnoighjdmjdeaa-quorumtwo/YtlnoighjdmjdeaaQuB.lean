/- What weigh and Has answer. -/
import Derived.Test.YtlnoighjdmjdeaaQuA
import Derived.Deep.RegionHeld
import Derived.Deep.CutRange
namespace Go.Proofs.Ytlnoighjdmjdeaa
open Go.RowKit Go.Shelf
set_option maxRecDepth 8000

theorem row7 {w : World} {b : Nat} {t : TypeId} {x : Nat → Int} (h : w.rowIs b t 7 (fun g => .int .i64 (x g))) : w.heap[b]? = some (.cells (ar7 x) t (0, 0)) := by
  obtain ⟨c, h1, h2, h3⟩ := h
  rw [h1]
  have : c = ar7 x := by
    apply Array.ext
    · rw [h2]; rfl
    · intro i hi hj
      have := h3 i (by omega)
      rw [Array.getElem?_eq_getElem hi] at this
      have h8 : i = 0 ∨ i = 1 ∨ i = 2 ∨ i = 3 ∨ i = 4 ∨ i = 5 ∨ i = 6 := by omega
      rw [Option.some.inj this]
      rcases h8 with rfl | rfl | rfl | rfl | rfl | rfl | rfl <;> rfl
  rw [this]
theorem row7_new (w : World) (t : TypeId) (x : Nat → Int) : (w.alloc (.cells (ar7 x) t)).rowIs w.heap.size t 7 (fun g => .int .i64 (x g)) :=
  World.rowIs_alloc w (ar7 x) t (fun g => .int .i64 (x g)) (fun i hi => by
    have h7 : i < 7 := hi
    have h8 : i = 0 ∨ i = 1 ∨ i = 2 ∨ i = 3 ∨ i = 4 ∨ i = 5 ∨ i = 6 := by omega
    rcases h8 with rfl | rfl | rfl | rfl | rfl | rfl | rfl <;> rfl)

theorem SyD.part_step (D : SyD) (S : Nat → Bool) (g k : Nat) : D.part S g (k + 1) = D.part S g k + if S k = true ∧ D.gs k = g then D.ws k else 0 := rfl

/-- The weights so far. -/
structure Wg (w wr : World) (D : SyD) (S k : Nat) : Prop where
  rp : wr.rowIs (w.heap.size + 1) 64 7 (fun g => .int .i64 (D.part S.testBit g k))
  r0 : wr.heap[w.heap.size]? = some (.cells (ar7 fun _ => 0) 64 (0, 0))
  be : Below w.heap.size w wr
theorem Wg.start (w : World) (D : SyD) (S : Nat) : Wg w ((w.alloc (.cells (ar7 fun _ => 0) 64)).alloc (.cells (ar7 fun _ => 0) 64)) D S 0 := by
  refine ⟨?_, ?_, ((Below.refl _ w).alloc (Nat.le_refl _) _).alloc (by simp) _⟩
  · have := row7_new (w.alloc (.cells (ar7 fun _ => 0) 64)) 64 (fun _ => 0)
    rw [World.size_alloc] at this
    exact this
  · rw [Below.heap_alloc _ _ _ (by simp)]
    exact heap_alloc_new _ _
theorem Wg.skip {w wr : World} {D : SyD} {S k : Nat} (h : Wg w wr D S k) (hk : S.testBit k = false) : Wg w wr D S (k + 1) := by
  refine ⟨h.rp.congr fun g _ => ?_, h.r0, h.be⟩
  rw [D.part_step, if_neg (by rw [hk]; simp), Int.add_zero]
theorem Wg.step {w wr : World} {D : SyD} {S k : Nat} (h : Wg w wr D S k) (hk : S.testBit k = true) : Wg w (wr.setCell ⟨w.heap.size + 1, D.gs k, none⟩ (.int .i64 (D.part S.testBit (D.gs k) k + D.ws k))).drew D S (k + 1) := by
  refine ⟨((h.rp.set (D.gs k) _).congr fun g _ => ?_).drew, ?_, ?_⟩
  · rw [D.part_step]
    by_cases e : g = D.gs k
    · subst e; rw [if_pos rfl, if_pos ⟨hk, rfl⟩]
    · rw [if_neg e, if_neg (fun q => e q.2.symm), Int.add_zero]
  · show (wr.setCell _ _).heap[w.heap.size]? = _
    exact (Deep.blk_setCell_other wr _ _ _ (show w.heap.size ≠ w.heap.size + 1 by omega)).trans h.r0
  · exact (h.be.setCell (by simp) _).drew

theorem weigh_sy {w : World} {s : Nat} {D : SyD} (hD : D.Good) (h : IsSy w s D) {S : Nat} (hS : S < 256) : Calls Try.prog 41 #[.pointer (some ⟨s, 0, none⟩), .int .u8 (S : Int)] w fun e w' => e = .returned (.agg (ar7 fun g => D.part S.testBit g D.n)) ∧ Below w.heap.size w w' := by
  have c0 := h.n0
  have hz := h.lt
  have HI : Hid (IsSy w s D) := h
  have HD : Hid D.Good := hD
  have n7 := hD.n7
  clear h hD
  obtain ⟨N, hN⟩ : ∃ N : Nat, N = D.n := ⟨_, rfl⟩
  rw [← hN] at c0 n7 ⊢
  have HE : Hid (N = D.n) := hN
  clear hN
  go_enter Try.func41, Try.ntmps41
  go_wp2
  clear c0
  go_loopw [11] (fun vi wr => ∃ k : Nat, k ≤ N ∧ vi = .int .i64 (k : Int) ∧ Hid (Wg w wr D S k)) (fun vi _ => N - (intOf vi).toNat)
  case atStart => exact ⟨0, by omega, rfl, Wg.start w D S⟩
  case round =>
    obtain ⟨k, hk, rfl, HW⟩ := hrel
    by_cases hkN : k < N
    · have hk8 : k < 8 := by omega
      have hk7 : k < 7 := by omega
      have hi0 : (0 : Int) ≤ (k : Int) := by omega
      have hi7 : (k : Int) < 7 := by omega
      have hiN : (k : Int) < (N : Int) := by omega
      have ht := and_bq hS hk8
      go_wp2_with fail
      go_at_call 34
      refine (bit_any hk8 _).mono ?_
      rintro e w1 ⟨rfl, rfl⟩
      cases hb : S.testBit k with
      | false =>
        rw [hb] at ht
        have HX : Hid (Wg w w1 D S (k + 1)) := HW.out.skip hb
        clear HW hb
        go_wp2
        go_roundw
        case rel => exact ⟨k + 1, by omega, by simp, HX⟩
        case measure => simp [intOf]; omega
      | true =>
        rw [hb] at ht
        have HX : Hid (Wg w _ D S (k + 1)) := HW.out.step hb
        have HI2 := HI.out.below HW.out.be hz
        have cw := HI2.ws hk7
        have cg := HI2.gs hk7
        have g6 := HD.out.g6 k
        have cp := HW.out.rp.cell (i := D.gs k) (by omega)
        have fp := HW.out.rp.frozen (D.gs k)
        have b0 := D.part_nonneg HD.out S.testBit (D.gs k) k
        have b1 := D.part_le HD.out S.testBit (D.gs k) k
        have b2 := D.whole_le HD.out (D.gs k) k
        have b3 := HD.out.w0 k
        have b4 := HD.out.w1 k
        have b5 : D.part S.testBit (D.gs k) k ≤ 700 := by omega
        have hsw := HI2.lt
        clear b1 b2 HI2 HW hb
        generalize D.part S.testBit (D.gs k) k = P at *
        generalize D.ws k = V at *
        have g0 : (0 : Int) ≤ (D.gs k : Int) := by omega
        have g7 : (D.gs k : Int) < 7 := by omega
        go_wp2_with fail
        go_region
        go_wp2
        go_roundw
        case rel => exact ⟨k + 1, by omega, by simp, HX⟩
        case measure => simp [intOf]; omega
    · obtain rfl : k = N := by omega
      have rp := row7 HW.out.rp
      have r0 := HW.out.r0
      have hsz : (ar7 fun _ => 0).size = (ar7 fun g => D.part S.testBit g k).size := rfl
      have hone : (ar7 fun g => D.part S.testBit g k).all (·.oneCell') = true := by simp [ar7, Value.oneCell']
      have HF : Hid ((wr.setRow w.heap.size (ar7 fun g => D.part S.testBit g k)).heap[w.heap.size]? = some (.cells (ar7 fun g => D.part S.testBit g k) 64 (0, 0)) ∧ Below w.heap.size w (wr.setRow w.heap.size (ar7 fun g => D.part S.testBit g k))) := by
        have k2 : Kept wr (wr.setRow w.heap.size (ar7 fun g => D.part S.testBit g k)) (fun q => q = w.heap.size) := ⟨rfl, rfl, rfl, by simp, fun q _ hn => setRow_other _ _ _ _ hn⟩
        exact ⟨setRow_heap wr w.heap.size _ _ _ _ r0, HW.out.be.trans (k2.below HW.out.be.size (fun q e => by omega))⟩
      clear HW
      have hq7 := q7
      go_wp2_with (first
        | (refine wpList_load_row rfl 64 _ rfl (w.heap.size + 1) rfl 64 _ (0, 0) _ rp Try.underlying64 rfl hq7 ?_)
        | (refine wpList_store_row rfl 64 _ _ rfl w.heap.size _ rfl rfl 64 _ r0 hq7 hsz hone ?_))
      all_goals (refine bodyPost_ret (results_cell_row Try.results41 _ _ w.heap.size 64 _ (0, 0) _ rfl HF.out.1 Try.underlying64 rfl hq7) rfl ?_; exact ⟨rfl, HF.out.2⟩)

theorem SyD.cnt_step (D : SyD) (k : Nat) : D.cnt (k + 1) = D.cnt k + if 0 < D.whole k D.n then 1 else 0 := rfl
theorem SyD.held_step (D : SyD) (S : Nat → Bool) (k : Nat) : D.held S (k + 1) = D.held S k + if D.whole k D.n < 2 * D.part S k D.n then 1 else 0 := rfl

theorem has_sy {w : World} {s : Nat} {D : SyD} (hD : D.Good) (h : IsSy w s D) {S : Nat} (hS : S < 256) : Calls Try.prog 22 #[.pointer (some ⟨s, 0, none⟩), .int .u8 (S : Int)] w fun e w' => e = .returned (.bool (D.has S.testBit)) ∧ Below w.heap.size w w' := by
  have HI : Hid (IsSy w s D) := h
  have HD : Hid D.Good := hD
  have hz := h.lt
  have HN : Hid (Calls Try.prog 31 #[.pointer (some ⟨s, 0, none⟩)] w fun e w' => e = .returned (.bool false) ∧ w' = w) := isNone_sy hD h
  have HG : Hid (Calls Try.prog 41 #[.pointer (some ⟨s, 0, none⟩), .int .u8 (S : Int)] w fun e w' => e = .returned (.agg (ar7 fun g => D.part S.testBit g D.n)) ∧ Below w.heap.size w w') := weigh_sy hD h hS
  clear h hD
  obtain ⟨val, hval⟩ : ∃ val, val = D.has S.testBit := ⟨_, rfl⟩
  rw [← hval]
  have HV : Hid (val = D.has S.testBit) := hval
  clear hval
  go_enter Try.func22, Try.ntmps22
  go_wp2_with fail
  refine Calls.mono HN.out ?_
  rintro e w1 ⟨rfl, hw1⟩
  rw [hw1]
  clear hw1 HN w1
  go_wp2_with fail
  refine Calls.mono HG.out ?_
  rintro e w1 ⟨rfl, hb1⟩
  have HB1 : Hid (Below w.heap.size w w1) := hb1
  clear hb1 HG
  have HI1 := HI.out.below HB1.out hz
  have hc := HI1.cells
  have hz1 := HI1.lt
  clear HI1
  obtain ⟨x, hx⟩ : ∃ x : Nat → Int, x = fun g => D.part S.testBit g D.n := ⟨_, rfl⟩
  obtain ⟨y, hy⟩ : ∃ y : Nat → Int, y = fun g => D.whole g D.n := ⟨_, rfl⟩
  rw [← hx]
  rw [← hy] at hc
  have HX : Hid (x = fun g => D.part S.testBit g D.n) := hx
  have HY : Hid (y = fun g => D.whole g D.n) := hy
  clear hx hy
  have HR : Hid ((w1.alloc (.cells (ar7 x) 64)).rowIs w1.heap.size 64 7 (fun g => .int .i64 (x g))) := row7_new _ _ _
  obtain ⟨c0, c1, c2, c3, c4, c5, c6⟩ := hc
  go_wp2
  clear c0 c1 c2 c3 c4 c5 c6
  go_loopw [6, 7, 19] (fun v6 v7 vi wr => ∃ k : Nat, k ≤ 7 ∧ v6 = .int .i64 (D.cnt k) ∧ v7 = .int .i64 (D.held S.testBit k) ∧ vi = .int .i64 (k : Int) ∧ Hid (wr.rowIs w1.heap.size 64 7 (fun g => .int .i64 (x g)) ∧ Below w.heap.size w wr)) (fun _ _ vi _ => 7 - (intOf vi).toNat)
  case atStart => exact ⟨0, by omega, rfl, rfl, rfl, HR.out, HB1.out.alloc HB1.out.size _⟩
  case round =>
    obtain ⟨k, hk, rfl, rfl, rfl, HW⟩ := hrel
    have hC := D.cnt_bounds k
    have hH := D.held_bounds S.testBit k
    have sC := D.cnt_step k
    have sH := D.held_step S.testBit k
    by_cases hk7 : k < 7
    · have hi0 : (0 : Int) ≤ (k : Int) := by omega
      have hi7 : (k : Int) < 7 := by omega
      have hix := fun W => idx7 y hk7 W
      have cp := HW.out.1.cell (i := k) hk7
      have hzp := HW.out.1.lt
      have ex : x k = D.part S.testBit k D.n := by rw [HX.out]
      have ey : y k = D.whole k D.n := by rw [HY.out]
      rw [← ex, ← ey] at sH
      rw [← ey] at sC
      have b0 := D.part_nonneg HD.out S.testBit k D.n
      have b1 := D.part_le HD.out S.testBit k D.n
      have b2 := D.whole_le HD.out k D.n
      have b3 := HD.out.n7
      rw [← ex] at b0 b1
      rw [← ey] at b1 b2
      have b5 : y k ≤ 700 := by omega
      clear b2 b3 ex ey
      generalize D.cnt k = C at *
      generalize D.held S.testBit k = H at *
      by_cases e1 : 0 < y k
      · have HC : Hid (Value.int .i64 (C + 1) = .int .i64 (D.cnt (k + 1))) := by show _ = _; rw [sC, if_pos e1]
        by_cases e2 : y k < 2 * x k
        · have HH : Hid (Value.int .i64 (H + 1) = .int .i64 (D.held S.testBit (k + 1))) := by show _ = _; rw [sH, if_pos e2]
          clear sC sH
          go_wp2
          go_roundw
          case rel => exact ⟨k + 1, by omega, HC.out, HH.out, by simp, HW.out⟩
          case measure => simp [intOf]; omega
        · have HH : Hid (Value.int .i64 H = .int .i64 (D.held S.testBit (k + 1))) := by show _ = _; rw [sH, if_neg e2, Int.add_zero]
          clear sC sH
          go_wp2
          go_roundw
          case rel => exact ⟨k + 1, by omega, HC.out, HH.out, by simp, HW.out⟩
          case measure => simp [intOf]; omega
      · have HC : Hid (Value.int .i64 C = .int .i64 (D.cnt (k + 1))) := by show _ = _; rw [sC, if_neg e1, Int.add_zero]
        by_cases e2 : y k < 2 * x k
        · exact absurd e2 (by omega)
        · have HH : Hid (Value.int .i64 H = .int .i64 (D.held S.testBit (k + 1))) := by show _ = _; rw [sH, if_neg e2, Int.add_zero]
          clear sC sH
          go_wp2
          go_roundw
          case rel => exact ⟨k + 1, by omega, HC.out, HH.out, by simp, HW.out⟩
          case measure => simp [intOf]; omega
    · obtain rfl : k = 7 := by omega
      clear sC sH
      have HV2 : Hid (val = decide (D.cnt 7 < 2 * D.held S.testBit 7)) := HV.out
      clear HV
      generalize D.cnt 7 = C at *
      generalize D.held S.testBit 7 = H at *
      by_cases e : C < 2 * H
      · have HV3 : Hid (val = true) := by show _ = _; rw [HV2.out, decide_eq_true e]
        clear HV2
        rw [show (((7 : Nat) : Int)) = 7 from rfl]
        go_wp2
        all_goals (go_ret; exact ⟨by rw [HV3.out]; first | rfl | (simp; omega), HW.out.2⟩)
      · have HV3 : Hid (val = false) := by show _ = _; rw [HV2.out, decide_eq_false e]
        clear HV2
        rw [show (((7 : Nat) : Int)) = 7 from rfl]
        go_wp2
        all_goals (go_ret; exact ⟨by rw [HV3.out]; first | rfl | (simp; omega), HW.out.2⟩)

end Go.Proofs.Ytlnoighjdmjdeaa
