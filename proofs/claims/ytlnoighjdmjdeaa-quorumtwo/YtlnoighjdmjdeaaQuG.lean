/- What an Acks' from, Put and Of answer. -/
import Derived.Test.YtlnoighjdmjdeaaQuF
namespace Go.Proofs.Ytlnoighjdmjdeaa
open Go.RowKit Go.Shelf
set_option maxRecDepth 8000

/-- Those among the first k that have acknowledged up to a zxid, as bits. -/
def AcD.frN (A : AcD) (e m : Int) : Nat → Nat
  | 0 => 0
  | k + 1 => if A.rea k e m then A.frN e m k ||| 2 ^ k else A.frN e m k
theorem AcD.frN_bit (A : AcD) (e m : Int) (k j : Nat) : (A.frN e m k).testBit j = (decide (j < k) && A.rea j e m) := by
  induction k with
  | zero => simp [AcD.frN]
  | succ k ih =>
    unfold AcD.frN
    by_cases h : A.rea k e m = true
    · rw [if_pos h, Nat.testBit_or, ih, Nat.testBit_two_pow]
      by_cases e1 : k = j
      · subst e1; simp [h]
      · by_cases e2 : j < k
        · simp [e1, e2]; omega
        · simp [e1, e2]; omega
    · rw [if_neg h, ih]
      by_cases e1 : k = j
      · subst e1; simp [h]
      · by_cases e2 : j < k
        · simp [e2]; omega
        · simp [e2]; omega
theorem AcD.frN_lt (A : AcD) (e m : Int) {k : Nat} (hk : k ≤ 7) : A.frN e m k < 256 := by
  refine Nat.lt_of_lt_of_le (Nat.lt_pow_two_of_testBit (n := 7) _ fun i hi => ?_) (by decide)
  rw [A.frN_bit]
  simp; omega

theorem from_any {w : World} {p s : Nat} {D : SyD} {A : AcD} (hD : D.Good) (h : IsSy w s D) (ha : IsAc w p s A) (hs : A.so < 256) (e m : Int) : Calls Try.prog 36 #[.pointer (some ⟨p, 0, none⟩), zx e m] w fun r w' => r = .returned (.int .u8 (A.frN e m D.n : Int)) ∧ Below w.heap.size w w' := by
  have n7 := hD.n7
  have hz := ha.lt
  have hzs := h.lt
  obtain ⟨W0, hW0⟩ : ∃ W0, W0 = w.alloc (.cells #[.int .u32 e, .int .u32 m] 38) := ⟨_, rfl⟩
  have hb0 : Below w.heap.size w W0 := by rw [hW0]; exact one_alloc w _
  have c0 := (ha.below hb0 hz).c0
  have b0 : W0.cell? ⟨w.heap.size, 0, none⟩ = some (.int .u32 e) := by rw [hW0]; exact cell_of_row _ _ 0 _ _ _ (heap_alloc_new _ _)
  have b1 : W0.cell? ⟨w.heap.size, 1, none⟩ = some (.int .u32 m) := by rw [hW0]; exact cell_of_row _ _ 1 _ _ _ (heap_alloc_new _ _)
  have HS : Hid (Calls Try.prog 13 #[.pointer (some ⟨s, 0, none⟩)] W0 fun e w' => e = .returned (.int .i64 D.n) ∧ w' = W0) := size_sy hD (h.below hb0 hzs)
  have HA : Hid (IsAc w p s A) := ha
  have HB0 : Hid (Below w.heap.size w W0) := hb0
  have HZ0 : Hid (W0.heap.size = w.heap.size + 1) := by show _ = _; rw [hW0]; simp
  have HB0c : Hid (W0.cell? ⟨w.heap.size, 0, none⟩ = some (.int .u32 e) ∧ W0.cell? ⟨w.heap.size, 1, none⟩ = some (.int .u32 m)) := ⟨b0, b1⟩
  clear hb0 h hD ha b0 b1
  obtain ⟨N, hN⟩ : ∃ N : Nat, N = D.n := ⟨_, rfl⟩
  rw [← hN] at HS n7 ⊢
  clear hN
  have HW0 : Hid (w.alloc (.cells #[.int .u32 e, .int .u32 m] 38) = W0) := hW0.symm
  clear hW0
  go_enter Try.func36, Try.ntmps36
  go_upto_region 2 with fail
  rw [HW0.out]
  clear HW0
  go_wp2_with fail
  refine Calls.mono HS.out ?_
  rintro r w1 ⟨rfl, hw1⟩
  rw [hw1]
  clear hw1 HS w1 c0
  go_wp2
  go_loopw [5, 12] (fun v5 vi wr => ∃ k : Nat, k ≤ N ∧ v5 = .int .u8 (A.frN e m k : Int) ∧ vi = .int .i64 (k : Int) ∧ Hid (Below W0.heap.size W0 wr)) (fun _ vi _ => N - (intOf vi).toNat)
  case atStart => exact ⟨0, by omega, rfl, rfl, Below.refl _ _⟩
  case round =>
    obtain ⟨k, hk, rfl, rfl, HW⟩ := hrel
    have HBw : Hid (Below w.heap.size w wr) := HB0.out.trans (HW.out.mono HB0.out.size)
    by_cases hkN : k < N
    · have hk7 : k < 7 := by omega
      have hk8 : k < 8 := by omega
      have hi0 : (0 : Int) ≤ (k : Int) := by omega
      have hiN : (k : Int) < (N : Int) := by omega
      have b0 := kcell HW.out HB0c.out.1
      have b1 := kcell HW.out HB0c.out.2
      have HR : Hid (Calls Try.prog 40 #[.pointer (some ⟨p, 0, none⟩), .int .i64 (k : Int), zx e m] wr fun r w' => r = .returned (.bool (A.rea k e m)) ∧ Below wr.heap.size wr w') := reaches_any (HA.out.below HBw.out hz) hs hk7 e m
      have ho := or_bq (A.frN_lt e m (show k ≤ 7 by omega)) hk8
      have sF : Hid (A.frN e m (k + 1) = if A.rea k e m then A.frN e m k ||| 2 ^ k else A.frN e m k) := rfl
      have hzW := HW.out.size
      cases hb : A.rea k e m with
      | true =>
        rw [hb] at HR sF
        have HX : Hid (Value.int .u8 ((A.frN e m k ||| 2 ^ k : Nat) : Int) = .int .u8 (A.frN e m (k + 1) : Int)) := by show _ = _; rw [sF.out]; rfl
        clear hb sF
        go_wp2_with fail
        refine Calls.mono HR.out ?_
        rintro r w2 ⟨rfl, hb2⟩
        have HB2 : Hid (Below W0.heap.size W0 w2) := HW.out.trans (hb2.mono hzW)
        clear hb2 HR
        go_wp2_with fail
        go_at_call 34
        refine (bit_any hk8 _).mono ?_
        rintro r w3 ⟨rfl, rfl⟩
        go_wp2
        go_roundw
        case rel => exact ⟨k + 1, by omega, HX.out, by simp, HB2⟩
        case measure => simp [intOf]; omega
      | false =>
        rw [hb] at HR sF
        have HX : Hid (Value.int .u8 (A.frN e m k : Int) = .int .u8 (A.frN e m (k + 1) : Int)) := by show _ = _; rw [sF.out]; rfl
        clear hb sF
        go_wp2_with fail
        refine Calls.mono HR.out ?_
        rintro r w2 ⟨rfl, hb2⟩
        have HB2 : Hid (Below W0.heap.size W0 w2) := HW.out.trans (hb2.mono hzW)
        clear hb2 HR
        go_wp2
        go_roundw
        case rel => exact ⟨k + 1, by omega, HX.out, by simp, HB2⟩
        case measure => simp [intOf]; omega
    · obtain rfl : k = N := by omega
      go_wp2
      all_goals (go_ret; exact ⟨rfl, HBw.out⟩)

theorem kept_of_below {w w' : World} {S : Nat → Prop} (h : Below w.heap.size w w') : Kept w w' S :=
  have k := Below.kept h
  ⟨k.os, k.tape, k.output, k.size, fun j hj _ => k.block j hj (by omega)⟩

/-- A server has acknowledged up to a zxid. -/
def AcD.put (A : AcD) (i : Nat) (e m : Int) : AcD := if A.rea i e m then A else ⟨A.so ||| 2 ^ i, fun j => if j = i then e else A.e j, fun j => if j = i then m else A.m j⟩

theorem put_no {w : World} {p s : Nat} {D : SyD} {A : AcD} (hD : D.Good) (h : IsSy w s D) (ha : IsAc w p s A) (v e m : Int) (h0 : -128 ≤ v) (h1 : v ≤ 127) (hv : ¬ (0 ≤ v ∧ v < D.n)) : Calls Try.prog 20 #[.pointer (some ⟨p, 0, none⟩), .int .i8 v, zx e m] w fun r w' => r = .returned (.int .i64 1) ∧ Below w.heap.size w w' := by
  have hz := ha.lt
  have hzs := h.lt
  obtain ⟨W0, hW0⟩ : ∃ W0, W0 = w.alloc (.cells #[.int .u32 e, .int .u32 m] 38) := ⟨_, rfl⟩
  have hb0 : Below w.heap.size w W0 := by rw [hW0]; exact one_alloc w _
  have ha0 := ha.below hb0 hz
  have c0 := ha0.c0
  have hz0 := ha0.lt
  have HN : Hid (Calls Try.prog 33 #[.pointer (some ⟨p, 0, none⟩)] W0 fun e w' => e = .returned (.bool false) ∧ w' = W0) := isNone_ac hD (h.below hb0 hzs) ha0
  have HSv := isServer_sy hD (h.below hb0 hzs) v h0 h1
  rw [decide_eq_false hv] at HSv
  have HSv' : Hid (Calls Try.prog 38 #[.pointer (some ⟨s, 0, none⟩), .int .i8 v] W0 fun e w' => e = .returned (.bool false) ∧ w' = W0) := HSv
  have HB0 : Hid (Below w.heap.size w W0) := hb0
  have HW0 : Hid (w.alloc (.cells #[.int .u32 e, .int .u32 m] 38) = W0) := hW0.symm
  clear hW0 HSv hb0 h ha ha0 hD hv
  go_enter Try.func20, Try.ntmps20
  go_upto_region 1 with fail
  rw [HW0.out]
  clear HW0
  go_wp2_with fail
  refine Calls.mono HN.out ?_
  rintro r w1 ⟨rfl, hw1⟩
  rw [hw1]
  clear hw1 HN w1
  go_wp2_with fail
  refine Calls.mono HSv'.out ?_
  rintro r w1 ⟨rfl, hw1⟩
  rw [hw1]
  clear hw1 HSv' w1
  go_wp2
  all_goals (go_ret; exact ⟨rfl, HB0.out⟩)

theorem put_yes {w : World} {p s i : Nat} {D : SyD} {A : AcD} (hD : D.Good) (h : IsSy w s D) (ha : IsAc w p s A) (hs : A.so < 256) (hi : i < D.n) (e m : Int) : Calls Try.prog 20 #[.pointer (some ⟨p, 0, none⟩), .int .i8 (i : Int), zx e m] w fun r w' => r = .returned (.int .i64 0) ∧ IsAc w' p s (A.put i e m) ∧ Kept w w' (fun k => k = p) := by
  have hz := ha.lt
  have hzs := h.lt
  have n7 := hD.n7
  have hi7 : i < 7 := by omega
  have hi8 : i < 8 := by omega
  obtain ⟨W0, hW0⟩ : ∃ W0, W0 = w.alloc (.cells #[.int .u32 e, .int .u32 m] 38) := ⟨_, rfl⟩
  have hb0 : Below w.heap.size w W0 := by rw [hW0]; exact one_alloc w _
  have ha0 := ha.below hb0 hz
  have c0 := ha0.c0
  have hz0 := ha0.lt
  have b0 : W0.cell? ⟨w.heap.size, 0, none⟩ = some (.int .u32 e) := by rw [hW0]; exact cell_of_row _ _ 0 _ _ _ (heap_alloc_new _ _)
  have b1 : W0.cell? ⟨w.heap.size, 1, none⟩ = some (.int .u32 m) := by rw [hW0]; exact cell_of_row _ _ 1 _ _ _ (heap_alloc_new _ _)
  have HN : Hid (Calls Try.prog 33 #[.pointer (some ⟨p, 0, none⟩)] W0 fun e w' => e = .returned (.bool false) ∧ w' = W0) := isNone_ac hD (h.below hb0 hzs) ha0
  have HSv := isServer_sy hD (h.below hb0 hzs) (i : Int) (by omega) (by omega)
  rw [decide_eq_true (show (0 : Int) ≤ (i : Int) ∧ (i : Int) < D.n by omega)] at HSv
  have HSv' : Hid (Calls Try.prog 38 #[.pointer (some ⟨s, 0, none⟩), .int .i8 (i : Int)] W0 fun e w' => e = .returned (.bool true) ∧ w' = W0) := HSv
  have HR : Hid (Calls Try.prog 40 #[.pointer (some ⟨p, 0, none⟩), .int .i64 (i : Int), zx e m] W0 fun r w' => r = .returned (.bool (A.rea i e m)) ∧ Below W0.heap.size W0 w') := reaches_any ha0 hs hi7 e m
  have HB0 : Hid (Below w.heap.size w W0) := hb0
  have HA : Hid (IsAc W0 p s A) := ha0
  have HW0 : Hid (w.alloc (.cells #[.int .u32 e, .int .u32 m] 38) = W0) := hW0.symm
  have hi0 : (0 : Int) ≤ (i : Int) := by omega
  have hi7' : (i : Int) < 7 := by omega
  clear hW0 HSv hb0 h ha ha0 hD hi n7
  have HBx : Hid (W0.cell? ⟨w.heap.size, 0, none⟩ = some (.int .u32 e) ∧ W0.cell? ⟨w.heap.size, 1, none⟩ = some (.int .u32 m)) := ⟨b0, b1⟩
  have ho := or_bq hs hi8
  have hwr : IntKind.i64.wrap (i : Int) = (i : Int) := by rw [IntKind.wrap_i64]; omega
  have HP : Hid (A.put i e m = if A.rea i e m then A else ⟨A.so ||| 2 ^ i, fun j => if j = i then e else A.e j, fun j => if j = i then m else A.m j⟩) := rfl
  obtain ⟨B, hB⟩ : ∃ B, B = A.put i e m := ⟨_, rfl⟩
  rw [← hB] at HP ⊢
  clear hB
  cases hr : A.rea i e m with
  | true =>
    rw [hr] at HR HP
    clear hr
    go_enter Try.func20, Try.ntmps20
    go_upto_region 1 with fail
    rw [HW0.out]
    clear HW0
    go_wp2_with fail
    refine Calls.mono HN.out ?_
    rintro r w1 ⟨rfl, hw1⟩
    rw [hw1]
    clear hw1 HN w1
    go_wp2_with fail
    refine Calls.mono HSv'.out ?_
    rintro r w1 ⟨rfl, hw1⟩
    rw [hw1]
    clear hw1 HSv' w1
    go_wp2_with fail
    refine Calls.mono HR.out ?_
    rintro r w2 ⟨rfl, hb2⟩
    have HX : Hid (IsAc w2 p s B ∧ Kept w w2 (fun k => k = p)) := by
      refine ⟨?_, kept_of_below (HB0.out.trans (hb2.mono HB0.out.size))⟩
      rw [HP.out]
      exact HA.out.below hb2 HA.out.lt
    clear hb2 HR HP
    go_wp2
    all_goals (go_ret; exact ⟨rfl, HX.out⟩)
  | false =>
    rw [hr] at HR HP
    clear hr
    go_enter Try.func20, Try.ntmps20
    go_upto_region 1 with fail
    rw [HW0.out]
    clear HW0
    go_wp2_with fail
    refine Calls.mono HN.out ?_
    rintro r w1 ⟨rfl, hw1⟩
    rw [hw1]
    clear hw1 HN w1
    go_wp2_with fail
    refine Calls.mono HSv'.out ?_
    rintro r w1 ⟨rfl, hw1⟩
    rw [hw1]
    clear hw1 HSv' w1
    go_wp2_with fail
    refine Calls.mono HR.out ?_
    rintro r w2 ⟨rfl, hb2⟩
    have hA2 := HA.out.below hb2 HA.out.lt
    have c2 := hA2.c2
    have f2 := World.rowIs.frozen hA2 2
    have hz2 := hA2.lt
    have x0 := kcell hb2 HBx.out.1
    have x1 := kcell hb2 HBx.out.2
    have r3 := World.rowIs.drew (World.rowIs.set hA2 2 (.int .u8 ((A.so ||| 2 ^ i : Nat) : Int)))
    have c3 := hA2.ce hi7
    have c4 := hA2.cm hi7
    have f3 := World.rowIs.frozen hA2 (3 + i * 2)
    have f4 := World.rowIs.frozen hA2 (3 + i * 2 + 1)
    have z3 := r3.lt
    have hne : w.heap.size ≠ p := by omega
    have x2 : (w2.setCell ⟨p, 2, none⟩ (.int .u8 ((A.so ||| 2 ^ i : Nat) : Int))).drew.cell? ⟨w.heap.size, 0, none⟩ = some (.int .u32 e) := (World.cell?_of_block (Below.heap_setCell _ _ _ _ hne)).trans x0
    have x3 : (w2.setCell ⟨p, 2, none⟩ (.int .u8 ((A.so ||| 2 ^ i : Nat) : Int))).drew.cell? ⟨w.heap.size, 1, none⟩ = some (.int .u32 m) := (World.cell?_of_block (Below.heap_setCell _ _ _ _ hne)).trans x1
    have HX : Hid (IsAc (((w2.setCell ⟨p, 2, none⟩ (.int .u8 ((A.so ||| 2 ^ i : Nat) : Int))).drew.setCell ⟨p, 3 + i * 2, none⟩ (.int .u32 e)).setCell ⟨p, 3 + i * 2 + 1, none⟩ (.int .u32 m)).drew p s B ∧ Kept w (((w2.setCell ⟨p, 2, none⟩ (.int .u8 ((A.so ||| 2 ^ i : Nat) : Int))).drew.setCell ⟨p, 3 + i * 2, none⟩ (.int .u32 e)).setCell ⟨p, 3 + i * 2 + 1, none⟩ (.int .u32 m)).drew (fun k => k = p)) := by
      refine ⟨?_, ?_⟩
      · refine (((r3.set (3 + i * 2) (.int .u32 e)).set (3 + i * 2 + 1) (.int .u32 m)).congr fun c hc => ?_).drew
        rw [HP.out]
        unfold acV
        by_cases e0 : c = 0
        · subst e0; rw [if_neg (by omega), if_neg (by omega), if_neg (by omega)]; rfl
        · by_cases e1 : c = 1
          · subst e1; rw [if_neg (by omega), if_neg (by omega), if_neg (by omega)]; rfl
          · by_cases e2 : c = 2
            · subst e2; rw [if_neg (by omega), if_neg (by omega), if_pos rfl]; rfl
            · rw [if_neg e0, if_neg e1, if_neg e2]
              by_cases e3 : (c - 3) % 2 = 0
              · rw [if_neg (by omega), if_pos e3]
                by_cases e4 : c = 3 + i * 2
                · rw [if_pos e4, if_neg e0, if_neg e1, if_neg e2, if_pos e3]; show _ = Value.int .u32 (if (c - 3) / 2 = i then e else _); rw [if_pos (by omega)]
                · rw [if_neg e4, if_neg e2, if_neg e0, if_neg e1, if_neg e2, if_pos e3]; show _ = Value.int .u32 (if (c - 3) / 2 = i then e else _); rw [if_neg (by omega)]
              · rw [if_neg e3]
                by_cases e4 : c = 3 + i * 2 + 1
                · rw [if_pos e4, if_neg e0, if_neg e1, if_neg e2, if_neg e3]; show _ = Value.int .u32 (if (c - 3) / 2 = i then m else _); rw [if_pos (by omega)]
                · rw [if_neg e4, if_neg (by omega), if_neg e2, if_neg e0, if_neg e1, if_neg e2, if_neg e3]; show _ = Value.int .u32 (if (c - 3) / 2 = i then m else _); rw [if_neg (by omega)]
      · have k2 : Kept w w2 (fun k => k = p) := kept_of_below (HB0.out.trans (hb2.mono HB0.out.size))
        have k3 : ∀ {W W' : World} {o : Nat} {v : Value}, Kept W W' (fun k => k = p) → Kept W (W'.setCell ⟨p, o, none⟩ v) (fun k => k = p) := fun {W W' o v} q => ⟨q.os, q.tape, q.output, by have := q.size; simpa using this, fun j hj hn => (Deep.blk_setCell_other W' _ _ _ hn).trans (q.block j hj hn)⟩
        have k4 : ∀ {W W' : World}, Kept W W' (fun k => k = p) → Kept W W'.drew (fun k => k = p) := fun {W W'} q => ⟨q.os, q.tape, q.output, q.size, q.block⟩
        exact k4 (k3 (k3 (k4 (k3 k2))))
    clear hA2 r3 x0 x1 hb2 HP HR HA
    go_wp2_with fail
    refine wp_region_held_drew (S := (fun _ => True)) (by kernel_rfl) ?_ (fun hHeld => ?_)
    · trivial
    refine wpAnyH_take (i := 0) (oi := { dst := some 24, op := Op.move (Operand.tmp 0), type := 33, pos := "acks.go:30", after := #[], guard := none }) (v := ?_) rfl (by kernel_rfl) (by kernel_rfl) (by kernel_rfl) (fun _ _ _ h => h) (Or.inl ⟨by rfl, ?_⟩) (by assumption) ?_
    rotate_left
    · (intro w hSw; (try dsimp only at hSw); go_simp) <;> with_reducible rfl
    try simp only [Act.put, List.setIfInBounds_toArray, List.set_cons_zero, List.set_cons_succ]
    refine wpAnyH_take (i := 1) (oi := { dst := some 25, op := Op.nilCheck (Operand.tmp 24), type := 0, pos := "acks.go:30", after := #[{ on := 0, ground := Ground.data }], guard := none }) (v := ?_) rfl (by kernel_rfl) (by kernel_rfl) (by kernel_rfl) (fun _ _ _ h => h) (Or.inl ⟨by rfl, ?_⟩) (by assumption) ?_
    rotate_left
    · (intro w hSw; (try dsimp only at hSw); go_simp) <;> with_reducible rfl
    try simp only [Act.put, List.setIfInBounds_toArray, List.set_cons_zero, List.set_cons_succ]
    refine wpAnyH_take (i := 2) (oi := { dst := some 26, op := Op.fieldAddr 41 (Operand.tmp 25) 2, type := 0, pos := "acks.go:30", after := #[{ on := 1, ground := Ground.data }], guard := none }) (v := ?_) rfl (by kernel_rfl) (by kernel_rfl) (by kernel_rfl) (fun _ _ _ h => h) (Or.inl ⟨by rfl, ?_⟩) (by assumption) ?_
    rotate_left
    · (intro w hSw; (try dsimp only at hSw); go_simp) <;> with_reducible rfl
    try simp only [Act.put, List.setIfInBounds_toArray, List.set_cons_zero, List.set_cons_succ]
    refine wpAnyH_take (i := 4) (oi := { dst := some 28, op := Op.move (Operand.tmp 1), type := 48, pos := "acks.go:30", after := #[], guard := none }) (v := ?_) rfl (by kernel_rfl) (by kernel_rfl) (by kernel_rfl) (fun _ _ _ h => h) (Or.inl ⟨by rfl, ?_⟩) (by assumption) ?_
    rotate_left
    · (intro w hSw; (try dsimp only at hSw); go_simp) <;> with_reducible rfl
    try simp only [Act.put, List.setIfInBounds_toArray, List.set_cons_zero, List.set_cons_succ]
    refine wpAnyH_take (i := 5) (oi := { dst := some 29, op := Op.convert 48 3 (Operand.tmp 28), type := 3, pos := "acks.go:30", after := #[{ on := 4, ground := Ground.data }], guard := none }) (v := ?_) rfl (by kernel_rfl) (by kernel_rfl) (by kernel_rfl) (fun _ _ _ h => h) (Or.inl ⟨by rfl, ?_⟩) (by assumption) ?_
    rotate_left
    · (intro w hSw; (try dsimp only at hSw); go_simp) <;> with_reducible rfl
    try simp only [Act.put, List.setIfInBounds_toArray, List.set_cons_zero, List.set_cons_succ]
    refine wpAnyH_ready (rs := [3, 6]) (by kernel_rfl) (by simp) ?_
    refine AllReadyH.cons (o := { dst := some 27, op := Op.load 5 (Operand.tmp 26), type := 5, pos := "acks.go:30", after := #[{ on := 2, ground := Ground.data }], guard := none }) rfl (fun K hK => ?_) (AllReadyH.cons (o := { dst := some 30, op := Op.call { callee := Callee.value (Operand.func 34), args := #[Operand.tmp 29], argTypes := #[3] }, type := 5, pos := "acks.go:30", after := #[{ on := 5, ground := Ground.data }], guard := none }) rfl (fun K hK => ?_) AllReadyH.nil)
    · go_simp
      refine hK.out _ _ trivial (fun hHeld => ?_)
      clear hK K
      refine wpAnyH_ready (rs := [6]) (by kernel_rfl) (by simp) ?_
      refine AllReadyH.cons (o := { dst := some 30, op := Op.call { callee := Callee.value (Operand.func 34), args := #[Operand.tmp 29], argTypes := #[3] }, type := 5, pos := "acks.go:30", after := #[{ on := 5, ground := Ground.data }], guard := none }) rfl (fun K hK => ?_) AllReadyH.nil
      go_simp
      refine (bit_any hi8 _).mono ?_
      rintro e1 w1 ⟨rfl, rfl⟩
      refine hK.out _ _ trivial (fun hHeld => ?_)
      clear hK K
      refine wpAnyH_take (i := 7) (oi := { dst := some 31, op := Op.binOp BinOp.or 5 (Operand.tmp 27) (Operand.tmp 30) 5, type := 5, pos := "acks.go:30", after := #[{ on := 3, ground := Ground.data }, { on := 6, ground := Ground.data }], guard := none }) (v := ?_) rfl (by kernel_rfl) (by kernel_rfl) (by kernel_rfl) (fun _ _ _ h => h) (Or.inl ⟨by rfl, ?_⟩) (by assumption) ?_
      rotate_left
      · (intro w hSw; (try dsimp only at hSw); go_simp) <;> with_reducible rfl
      try simp only [Act.put, List.setIfInBounds_toArray, List.set_cons_zero, List.set_cons_succ]
      refine wpAnyH_take (i := 8) (oi := { dst := some 32, op := Op.nilCheck (Operand.tmp 24), type := 0, pos := "acks.go:30", after := #[{ on := 0, ground := Ground.data }, { on := 0, ground := Ground.phase }, { on := 1, ground := Ground.phase }, { on := 2, ground := Ground.phase }, { on := 3, ground := Ground.phase }, { on := 4, ground := Ground.phase }, { on := 5, ground := Ground.phase }, { on := 6, ground := Ground.phase }, { on := 7, ground := Ground.phase }], guard := none }) (v := ?_) rfl (by kernel_rfl) (by kernel_rfl) (by kernel_rfl) (fun _ _ _ h => h) (Or.inl ⟨by rfl, ?_⟩) (by assumption) ?_
      rotate_left
      · (intro w hSw; (try dsimp only at hSw); go_simp) <;> with_reducible rfl
      try simp only [Act.put, List.setIfInBounds_toArray, List.set_cons_zero, List.set_cons_succ]
      refine wpAnyH_take (i := 9) (oi := { dst := some 33, op := Op.fieldAddr 41 (Operand.tmp 32) 2, type := 0, pos := "acks.go:30", after := #[{ on := 8, ground := Ground.data }, { on := 0, ground := Ground.phase }, { on := 1, ground := Ground.phase }, { on := 2, ground := Ground.phase }, { on := 3, ground := Ground.phase }, { on := 4, ground := Ground.phase }, { on := 5, ground := Ground.phase }, { on := 6, ground := Ground.phase }, { on := 7, ground := Ground.phase }], guard := none }) (v := ?_) rfl (by kernel_rfl) (by kernel_rfl) (by kernel_rfl) (fun _ _ _ h => h) (Or.inl ⟨by rfl, ?_⟩) (by assumption) ?_
      rotate_left
      · (intro w hSw; (try dsimp only at hSw); go_simp) <;> with_reducible rfl
      try simp only [Act.put, List.setIfInBounds_toArray, List.set_cons_zero, List.set_cons_succ]
      refine wpAnyH_ready (rs := [10]) (by kernel_rfl) (by simp) ?_
      refine AllReadyH.cons (o := { dst := none, op := Op.store 5 (Operand.tmp 33) (Operand.tmp 31), type := 0, pos := "acks.go:30", after := #[{ on := 9, ground := Ground.data }, { on := 7, ground := Ground.data }, { on := 6, ground := Ground.chain }, { on := 0, ground := Ground.phase }, { on := 1, ground := Ground.phase }, { on := 2, ground := Ground.phase }, { on := 3, ground := Ground.phase }, { on := 4, ground := Ground.phase }, { on := 5, ground := Ground.phase }, { on := 6, ground := Ground.phase }, { on := 7, ground := Ground.phase }], guard := none }) rfl (fun K hK => ?_) AllReadyH.nil
      go_simp
      refine hK.out _ _ trivial (fun hHeld => ?_)
      clear hK K
      refine wpAnyH_done (by kernel_rfl) ?_ _
      clear hHeld
      go_wp2_with fail
      go_region
      go_wp2
      all_goals (go_ret; exact ⟨rfl, HX.out⟩)
    · go_simp
      refine (bit_any hi8 _).mono ?_
      rintro e1 w1 ⟨rfl, rfl⟩
      refine hK.out _ _ trivial (fun hHeld => ?_)
      clear hK K
      refine wpAnyH_ready (rs := [3]) (by kernel_rfl) (by simp) ?_
      refine AllReadyH.cons (o := { dst := some 27, op := Op.load 5 (Operand.tmp 26), type := 5, pos := "acks.go:30", after := #[{ on := 2, ground := Ground.data }], guard := none }) rfl (fun K hK => ?_) AllReadyH.nil
      go_simp
      refine hK.out _ _ trivial (fun hHeld => ?_)
      clear hK K
      refine wpAnyH_take (i := 7) (oi := { dst := some 31, op := Op.binOp BinOp.or 5 (Operand.tmp 27) (Operand.tmp 30) 5, type := 5, pos := "acks.go:30", after := #[{ on := 3, ground := Ground.data }, { on := 6, ground := Ground.data }], guard := none }) (v := ?_) rfl (by kernel_rfl) (by kernel_rfl) (by kernel_rfl) (fun _ _ _ h => h) (Or.inl ⟨by rfl, ?_⟩) (by assumption) ?_
      rotate_left
      · (intro w hSw; (try dsimp only at hSw); go_simp) <;> with_reducible rfl
      try simp only [Act.put, List.setIfInBounds_toArray, List.set_cons_zero, List.set_cons_succ]
      refine wpAnyH_take (i := 8) (oi := { dst := some 32, op := Op.nilCheck (Operand.tmp 24), type := 0, pos := "acks.go:30", after := #[{ on := 0, ground := Ground.data }, { on := 0, ground := Ground.phase }, { on := 1, ground := Ground.phase }, { on := 2, ground := Ground.phase }, { on := 3, ground := Ground.phase }, { on := 4, ground := Ground.phase }, { on := 5, ground := Ground.phase }, { on := 6, ground := Ground.phase }, { on := 7, ground := Ground.phase }], guard := none }) (v := ?_) rfl (by kernel_rfl) (by kernel_rfl) (by kernel_rfl) (fun _ _ _ h => h) (Or.inl ⟨by rfl, ?_⟩) (by assumption) ?_
      rotate_left
      · (intro w hSw; (try dsimp only at hSw); go_simp) <;> with_reducible rfl
      try simp only [Act.put, List.setIfInBounds_toArray, List.set_cons_zero, List.set_cons_succ]
      refine wpAnyH_take (i := 9) (oi := { dst := some 33, op := Op.fieldAddr 41 (Operand.tmp 32) 2, type := 0, pos := "acks.go:30", after := #[{ on := 8, ground := Ground.data }, { on := 0, ground := Ground.phase }, { on := 1, ground := Ground.phase }, { on := 2, ground := Ground.phase }, { on := 3, ground := Ground.phase }, { on := 4, ground := Ground.phase }, { on := 5, ground := Ground.phase }, { on := 6, ground := Ground.phase }, { on := 7, ground := Ground.phase }], guard := none }) (v := ?_) rfl (by kernel_rfl) (by kernel_rfl) (by kernel_rfl) (fun _ _ _ h => h) (Or.inl ⟨by rfl, ?_⟩) (by assumption) ?_
      rotate_left
      · (intro w hSw; (try dsimp only at hSw); go_simp) <;> with_reducible rfl
      try simp only [Act.put, List.setIfInBounds_toArray, List.set_cons_zero, List.set_cons_succ]
      refine wpAnyH_ready (rs := [10]) (by kernel_rfl) (by simp) ?_
      refine AllReadyH.cons (o := { dst := none, op := Op.store 5 (Operand.tmp 33) (Operand.tmp 31), type := 0, pos := "acks.go:30", after := #[{ on := 9, ground := Ground.data }, { on := 7, ground := Ground.data }, { on := 6, ground := Ground.chain }, { on := 0, ground := Ground.phase }, { on := 1, ground := Ground.phase }, { on := 2, ground := Ground.phase }, { on := 3, ground := Ground.phase }, { on := 4, ground := Ground.phase }, { on := 5, ground := Ground.phase }, { on := 6, ground := Ground.phase }, { on := 7, ground := Ground.phase }], guard := none }) rfl (fun K hK => ?_) AllReadyH.nil
      go_simp
      refine hK.out _ _ trivial (fun hHeld => ?_)
      clear hK K
      refine wpAnyH_done (by kernel_rfl) ?_ _
      clear hHeld
      go_wp2_with fail
      go_region
      go_wp2
      all_goals (go_ret; exact ⟨rfl, HX.out⟩)

end Go.Proofs.Ytlnoighjdmjdeaa
