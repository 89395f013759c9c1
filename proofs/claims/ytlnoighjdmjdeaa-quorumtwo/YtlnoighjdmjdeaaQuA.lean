/- A system of servers in memory; what bit, isUpTo, isNone, Size, isServer and Counts answer. -/
import Derived.Test.YtlnoighjdmjdeaaQuP
import Derived.Test.YtlnoighjdmjdeaaCaP
import Derived.Test.YtlnoighjdmjdeaaZx
import Derived.ChangeKeysEq
import Derived.OwnWalk
import Derived.Deep.MidRow
import Derived.BigQuiet
import Derived.Shelf.Abstract
import Derived.Test.YtlnoighjdmjdeaaBgA
namespace Go.Proofs.Ytlnoighjdmjdeaa
open Go.RowKit Go.Shelf
set_option maxRecDepth 8000

/-- The bit of a server. -/
def bq (i : Nat) : Int := ((2 ^ i : Nat) : Int)
theorem and_bq {S i : Nat} (hS : S < 256) (hi : i < 8) : (bits .and .u8 (S : Int) (bq i) != 0) = S.testBit i := by
  have h : ∀ S : Fin 256, ∀ i : Fin 8, (bits .and .u8 ((S : Nat) : Int) (bq i) != 0) = (S : Nat).testBit i := by decide +kernel
  exact h ⟨S, hS⟩ ⟨i, hi⟩
theorem or_bq {S i : Nat} (hS : S < 256) (hi : i < 8) : bits .or .u8 (S : Int) (bq i) = ((S ||| 2 ^ i : Nat) : Int) := by
  have h : ∀ S : Fin 256, ∀ i : Fin 8, bits .or .u8 ((S : Nat) : Int) (bq i) = (((S : Nat) ||| 2 ^ (i : Nat) : Nat) : Int) := by decide +kernel
  exact h ⟨S, hS⟩ ⟨i, hi⟩
theorem del_bq {S i : Nat} (hS : S < 256) (hi : i < 8) : bits .andNot .u8 (S : Int) (bq i) = ((delB S i : Nat) : Int) := by
  have h : ∀ S : Fin 256, ∀ i : Fin 8, bits .andNot .u8 ((S : Nat) : Int) (bq i) = ((delB S i : Nat) : Int) := by decide +kernel
  exact h ⟨S, hS⟩ ⟨i, hi⟩

theorem bit_any {i : Nat} (hi : i < 8) (w : World) : Calls Try.prog 34 #[.int .i64 (i : Int)] w fun e w' => e = .returned (.int .u8 (bq i)) ∧ w' = w := by
  have h8 : i = 0 ∨ i = 1 ∨ i = 2 ∨ i = 3 ∨ i = 4 ∨ i = 5 ∨ i = 6 ∨ i = 7 := by omega
  rcases h8 with rfl | rfl | rfl | rfl | rfl | rfl | rfl | rfl <;>
  (go_enter Try.func34, Try.ntmps34
   go_wp2
   all_goals (go_ret; exact ⟨by rfl, rfl⟩))

theorem upTo_any (n m : Int) (w : World) : Calls Try.prog 30 #[.int .i64 n, .int .i64 m] w fun e w' => e = .returned (.bool (decide (0 ≤ n ∧ n ≤ m))) ∧ w' = w := by
  by_cases h1 : 0 ≤ n
  · by_cases h2 : n ≤ m
    · go_enter Try.func30, Try.ntmps30
      go_wp2
      all_goals (go_ret; exact ⟨by simp [h1, h2], rfl⟩)
    · go_enter Try.func30, Try.ntmps30
      go_wp2
      all_goals (go_ret; exact ⟨by simp [h2], rfl⟩)
  · go_enter Try.func30, Try.ntmps30
    go_wp2
    all_goals (go_ret; exact ⟨by simp; omega, rfl⟩)

/-- Seven numbers. -/
abbrev ar7 (x : Nat → Int) : Array Value := #[.int .i64 (x 0), .int .i64 (x 1), .int .i64 (x 2), .int .i64 (x 3), .int .i64 (x 4), .int .i64 (x 5), .int .i64 (x 6)]
theorem idx7 (x : Nat → Int) {k : Nat} (hk : k < 7) (W : World) : (Instr.index 64 (.agg (ar7 x)) (.int .i64 (k : Int))).run Try.prog W = .ok (.int .i64 (x k)) W := by
  have h8 : k = 0 ∨ k = 1 ∨ k = 2 ∨ k = 3 ∨ k = 4 ∨ k = 5 ∨ k = 6 := by omega
  rcases h8 with rfl | rfl | rfl | rfl | rfl | rfl | rfl <;> (show _ = _; kernel_rfl)
theorem eqItem7 (xs ys : Array Value) (is : List Nat) (i : Nat) (a b : Int) (w : World) (ha : xs[i]? = some (.int .i64 a)) (hb : ys[i]? = some (.int .i64 b)) :
    (Op.eqItems 9999 3 1 xs ys (i :: is)).run Try.prog w = if a = b then (Op.eqItems 9999 3 1 xs ys is).run Try.prog w else .ok false w := by
  have he : Try.prog.plainKey 3 = true := by kernel_rfl
  have p1 : (part 3 xs (i * 1)).run Try.prog w = .ok (.int .i64 a) w := run_part_plain w he (by rw [Nat.mul_one]; exact ha)
  have p2 : (part 3 ys (i * 1)).run Try.prog w = .ok (.int .i64 b) w := run_part_plain w he (by rw [Nat.mul_one]; exact hb)
  have q : (Op.equalIn 9999 3 (.int .i64 a) (.int .i64 b)).run Try.prog w = .ok (a == b) w := run_equalIn_int w 9998 3 .i64 .i64 a b Try.underlying3
  simp only [Op.eqItems, Sem.run_bind, p1, p2, q, Result.andThen_ok]
  by_cases h : a = b
  · subst h; simp
  · have : (a == b) = false := by rw [beq_eq_false_iff_ne]; exact h
    simp [h]
theorem Try.infoI7 : (Try.prog.info? 3).map (fun i => (i.zero, i.size, i.bytes)) = some (some (.int .i64 0), 1, 8) := by kernel_rfl
theorem eq7_no (x : Nat → Int) (w : World) {j : Nat} (hj : j < 7) (hx : x j ≠ 0) : (Op.equalIn 10000 64 (.agg (ar7 x)) (.agg (ar7 fun _ => 0))).run Try.prog w = .ok false w := by
  obtain ⟨i0, hi, hz0, hz1, hz2⟩ := info_parts Try.infoI7
  have hu := Try.underlying64
  have hc : Try.prog.cellsOf 3 = 1 := by kernel_rfl
  rw [show (10000 : Nat) = 9999 + 1 from rfl, run_equalIn_array w 9999 (ar7 x) (ar7 fun _ => 0) hu hi, hc]
  rw [show List.range 7 = [0, 1, 2, 3, 4, 5, 6] from rfl, eqItem7 _ _ _ 0 (x 0) 0 w rfl rfl, eqItem7 _ _ _ 1 (x 1) 0 w rfl rfl, eqItem7 _ _ _ 2 (x 2) 0 w rfl rfl, eqItem7 _ _ _ 3 (x 3) 0 w rfl rfl, eqItem7 _ _ _ 4 (x 4) 0 w rfl rfl, eqItem7 _ _ _ 5 (x 5) 0 w rfl rfl, eqItem7 _ _ _ 6 (x 6) 0 w rfl rfl]
  have h8 : j = 0 ∨ j = 1 ∨ j = 2 ∨ j = 3 ∨ j = 4 ∨ j = 5 ∨ j = 6 := by omega
  rcases h8 with rfl | rfl | rfl | rfl | rfl | rfl | rfl <;> rw [if_neg hx] <;> (repeat' split) <;> rfl

theorem eq7_yes (w : World) : (Op.equalIn 10000 64 (.agg (ar7 fun _ => 0)) (.agg (ar7 fun _ => 0))).run Try.prog w = .ok true w := by
  obtain ⟨i0, hi, hz0, hz1, hz2⟩ := info_parts Try.infoI7
  have hu := Try.underlying64
  have hc : Try.prog.cellsOf 3 = 1 := by kernel_rfl
  rw [show (10000 : Nat) = 9999 + 1 from rfl, run_equalIn_array w 9999 (ar7 fun _ => 0) (ar7 fun _ => 0) hu hi, hc]
  rw [show List.range 7 = [0, 1, 2, 3, 4, 5, 6] from rfl, eqItem7 _ _ _ 0 0 0 w rfl rfl, eqItem7 _ _ _ 1 0 0 w rfl rfl, eqItem7 _ _ _ 2 0 0 w rfl rfl, eqItem7 _ _ _ 3 0 0 w rfl rfl, eqItem7 _ _ _ 4 0 0 w rfl rfl, eqItem7 _ _ _ 5 0 0 w rfl rfl, eqItem7 _ _ _ 6 0 0 w rfl rfl]
  simp only [if_true]
  rfl

/-- The cells of a system. -/
def syI (D : SyD) (k : Nat) : Int := if k = 0 then D.n else if k < 8 then D.ws (k - 1) else if k < 15 then (D.gs (k - 8) : Int) else D.whole (k - 15) D.n
/-- A system in memory. -/
def IsSy (w : World) (s : Nat) (D : SyD) : Prop := w.rowIs s 66 22 (fun k => .int .i64 (syI D k))
theorem IsSy.lt {w : World} {s : Nat} {D : SyD} (h : IsSy w s D) : s < w.heap.size := World.rowIs.lt h
theorem IsSy.kept {w w' : World} {S : Nat → Prop} {s : Nat} {D : SyD} (h : IsSy w s D) (hk : Kept w w' S) (hn : ¬ S s) : IsSy w' s D := by
  obtain ⟨c, h1, h2⟩ := h
  exact ⟨c, hk.heap h1 hn, h2⟩
theorem IsSy.below {w w' : World} {s : Nat} {D : SyD} {n : Nat} (h : IsSy w s D) (hk : Below n w w') (hn : s < n) : IsSy w' s D := h.kept (Below.kept hk) (fun e => by omega)
theorem IsSy.n0 {w : World} {s : Nat} {D : SyD} (h : IsSy w s D) : w.cell? ⟨s, 0, none⟩ = some (.int .i64 D.n) := World.rowIs.cell h (by omega)
theorem IsSy.ws {w : World} {s : Nat} {D : SyD} (h : IsSy w s D) {i : Nat} (hi : i < 7) : w.cell? ⟨s, 1 + i, none⟩ = some (.int .i64 (D.ws i)) := by
  have := World.rowIs.cell h (i := 1 + i) (by omega)
  rw [this]
  unfold syI
  rw [if_neg (by omega), if_pos (by omega), Nat.add_sub_cancel_left]
theorem IsSy.gs {w : World} {s : Nat} {D : SyD} (h : IsSy w s D) {i : Nat} (hi : i < 7) : w.cell? ⟨s, 8 + i, none⟩ = some (.int .i64 (D.gs i : Int)) := by
  have := World.rowIs.cell h (i := 8 + i) (by omega)
  rw [this]
  unfold syI
  rw [if_neg (by omega), if_neg (by omega), if_pos (by omega), Nat.add_sub_cancel_left]
theorem IsSy.wh {w : World} {s : Nat} {D : SyD} (h : IsSy w s D) : w.rangeAt s 15 (ar7 fun g => D.whole g D.n).toList := fun j v hv => by
  have hj : j < 7 := (List.getElem?_eq_some_iff.1 hv).1
  have := World.rowIs.cell h (i := 15 + j) (by omega)
  rw [this]
  have h8 : j = 0 ∨ j = 1 ∨ j = 2 ∨ j = 3 ∨ j = 4 ∨ j = 5 ∨ j = 6 := by omega
  rcases h8 with rfl | rfl | rfl | rfl | rfl | rfl | rfl <;> exact hv
theorem q7 : (Try.prog.info? 64).map (·.size) = some 7 := by kernel_rfl
theorem load_wh {w : World} {s : Nat} {D : SyD} (h : IsSy w s D) : (loadVar 64 ⟨s, 15, none⟩).run Try.prog w = .ok (.agg (ar7 fun g => D.whole g D.n)) w :=
  run_loadVar_mid w s 15 64 (ar7 fun g => D.whole g D.n).toList _ h.wh Try.underlying64 rfl q7

/-- The weights of all groups, cell by cell. -/
def Wh (w : World) (s : Nat) (x : Nat → Int) : Prop := w.cell? ⟨s, 15, none⟩ = some (.int .i64 (x 0)) ∧ w.cell? ⟨s, 16, none⟩ = some (.int .i64 (x 1)) ∧ w.cell? ⟨s, 17, none⟩ = some (.int .i64 (x 2)) ∧ w.cell? ⟨s, 18, none⟩ = some (.int .i64 (x 3)) ∧ w.cell? ⟨s, 19, none⟩ = some (.int .i64 (x 4)) ∧ w.cell? ⟨s, 20, none⟩ = some (.int .i64 (x 5)) ∧ w.cell? ⟨s, 21, none⟩ = some (.int .i64 (x 6))
theorem IsSy.cells {w : World} {s : Nat} {D : SyD} (h : IsSy w s D) : Wh w s (fun g => D.whole g D.n) :=
  ⟨h.wh 0 _ rfl, h.wh 1 _ rfl, h.wh 2 _ rfl, h.wh 3 _ rfl, h.wh 4 _ rfl, h.wh 5 _ rfl, h.wh 6 _ rfl⟩
theorem isNone_sy {w : World} {s : Nat} {D : SyD} (hD : D.Good) (h : IsSy w s D) : Calls Try.prog 31 #[.pointer (some ⟨s, 0, none⟩)] w fun e w' => e = .returned (.bool false) ∧ w' = w := by
  obtain ⟨j, hj, hw⟩ := hD.one
  have hg : D.gs j < 7 := by have := hD.g6 j; omega
  have hq := eq7_no (fun g => D.whole g D.n) w hg (by have := D.whole_pos hD hj hw; omega)
  have hc := h.cells
  generalize (fun g => D.whole g D.n) = x at hq hc
  obtain ⟨c0, c1, c2, c3, c4, c5, c6⟩ := hc
  have hz := h.lt
  clear h hg hw hj hD
  go_enter Try.func31, Try.ntmps31
  go_wp2
  all_goals (go_ret; exact ⟨rfl, rfl⟩)
theorem isNone_syNil (w : World) : Calls Try.prog 31 #[.pointer none] w fun e w' => e = .returned (.bool true) ∧ w' = w := by
  go_enter Try.func31, Try.ntmps31
  go_wp2
  all_goals (go_ret; exact ⟨rfl, rfl⟩)

theorem size_sy {w : World} {s : Nat} {D : SyD} (hD : D.Good) (h : IsSy w s D) : Calls Try.prog 13 #[.pointer (some ⟨s, 0, none⟩)] w fun e w' => e = .returned (.int .i64 D.n) ∧ w' = w := by
  have HN : Hid (Calls Try.prog 31 #[.pointer (some ⟨s, 0, none⟩)] w fun e w' => e = .returned (.bool false) ∧ w' = w) := isNone_sy hD h
  have c0 := h.n0
  have hz := h.lt
  clear h hD
  go_enter Try.func13, Try.ntmps13
  go_wp2_with fail
  refine Calls.mono HN.out ?_
  rintro e w1 ⟨rfl, hw1⟩
  rw [hw1]
  clear hw1 HN
  go_wp2
  all_goals (go_ret; exact ⟨rfl, rfl⟩)
theorem isServer_sy {w : World} {s : Nat} {D : SyD} (hD : D.Good) (h : IsSy w s D) (v : Int) (h0 : -128 ≤ v) (h1 : v ≤ 127) : Calls Try.prog 38 #[.pointer (some ⟨s, 0, none⟩), .int .i8 v] w fun e w' => e = .returned (.bool (decide (0 ≤ v ∧ v < D.n))) ∧ w' = w := by
  have HN : Hid (Calls Try.prog 13 #[.pointer (some ⟨s, 0, none⟩)] w fun e w' => e = .returned (.int .i64 D.n) ∧ w' = w) := size_sy hD h
  have n7 := hD.n7
  clear h hD
  obtain ⟨N, hN⟩ : ∃ N : Int, N = D.n := ⟨_, rfl⟩
  rw [← hN] at HN ⊢
  have N7 : N ≤ 7 := by omega
  clear hN n7
  by_cases e1 : 0 ≤ v
  · by_cases e2 : v < N
    · rw [decide_eq_true ⟨e1, e2⟩]
      go_enter Try.func38, Try.ntmps38
      go_wp2_with fail
      refine Calls.mono HN.out ?_
      rintro e w1 ⟨rfl, hw1⟩
      rw [hw1]
      clear hw1 HN
      go_wp2
      all_goals (go_ret; exact ⟨by first | rfl | (simp; omega), rfl⟩)
    · rw [decide_eq_false (fun q => e2 q.2)]
      go_enter Try.func38, Try.ntmps38
      go_wp2_with fail
      refine Calls.mono HN.out ?_
      rintro e w1 ⟨rfl, hw1⟩
      rw [hw1]
      clear hw1 HN
      go_wp2
      all_goals (go_ret; exact ⟨by first | rfl | (simp; omega), rfl⟩)
  · rw [decide_eq_false (fun q => e1 q.1)]
    clear HN
    go_enter Try.func38, Try.ntmps38
    go_wp2
    all_goals (go_ret; exact ⟨by first | rfl | (simp; omega), rfl⟩)

/-- Does a server count? -/
def SyD.cou (D : SyD) (v : Int) : Bool := decide (0 ≤ v ∧ v < D.n) && decide (0 < D.ws v.toNat)
theorem counts_sy {w : World} {s : Nat} {D : SyD} (hD : D.Good) (h : IsSy w s D) (v : Int) (h0 : -128 ≤ v) (h1 : v ≤ 127) : Calls Try.prog 26 #[.pointer (some ⟨s, 0, none⟩), .int .i8 v] w fun e w' => e = .returned (.bool (D.cou v)) ∧ w' = w := by
  have HN : Hid (Calls Try.prog 38 #[.pointer (some ⟨s, 0, none⟩), .int .i8 v] w fun e w' => e = .returned (.bool (decide (0 ≤ v ∧ v < D.n))) ∧ w' = w) := isServer_sy hD h v h0 h1
  have n7 := hD.n7
  unfold SyD.cou
  by_cases e1 : 0 ≤ v ∧ v < D.n
  · rw [decide_eq_true e1] at HN ⊢
    obtain ⟨k, rfl⟩ := Int.eq_ofNat_of_zero_le e1.1
    have hk : k < 7 := by omega
    have cw := h.ws hk
    have hz := h.lt
    have hk0 : (0 : Int) ≤ (k : Int) := by omega
    have hk7 : (k : Int) < 7 := by omega
    rw [Int.toNat_natCast]
    clear h hD n7 e1
    by_cases e2 : 0 < D.ws k
    · rw [decide_eq_true e2]
      go_enter Try.func26, Try.ntmps26
      go_wp2_with fail
      refine Calls.mono HN.out ?_
      rintro e w1 ⟨rfl, hw1⟩
      rw [hw1]
      clear hw1 HN
      go_wp2
      all_goals (go_ret; exact ⟨by first | rfl | (simp; omega), rfl⟩)
    · rw [decide_eq_false e2]
      go_enter Try.func26, Try.ntmps26
      go_wp2_with fail
      refine Calls.mono HN.out ?_
      rintro e w1 ⟨rfl, hw1⟩
      rw [hw1]
      clear hw1 HN
      go_wp2
      all_goals (go_ret; exact ⟨by first | rfl | (simp; omega), rfl⟩)
  · rw [decide_eq_false e1] at HN ⊢
    clear h hD n7 e1
    go_enter Try.func26, Try.ntmps26
    go_wp2_with fail
    refine Calls.mono HN.out ?_
    rintro e w1 ⟨rfl, hw1⟩
    rw [hw1]
    clear hw1 HN
    go_wp2
    all_goals (go_ret; exact ⟨by first | rfl | (simp; omega), rfl⟩)

end Go.Proofs.Ytlnoighjdmjdeaa
