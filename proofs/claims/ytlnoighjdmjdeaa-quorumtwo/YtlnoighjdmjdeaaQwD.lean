/- What the document's Acks' Put answers. -/
import Derived.Test.YtlnoighjdmjdeaaQwC
namespace Go.Proofs.Ytlnoighjdmjdeaa
open Go.RowKit Go.Shelf
set_option maxRecDepth 8000

theorem Ra.drew {w : World} {B q r n : Nat} {A : AcD} {bh ch bu cu : Nat} (h : Ra w B q r n A bh ch bu cu) : Ra w.drew B q r n A bh ch bu cu := ⟨h.row, h.hs, h.us, h.nh, h.nu, h.mh, h.mu, h.Bq, h.Bh, h.Bu⟩
theorem Ra.setH {w : World} {B q r n : Nat} {A : AcD} {bh ch bu cu : Nat} (h : Ra w B q r n A bh ch bu cu) {i : Nat} (_ : i < n) : Ra (w.setCell ⟨bh, i, none⟩ (.bool true)) B q r n ⟨A.so ||| 2 ^ i, A.e, A.m⟩ bh ch bu cu := by
  obtain ⟨f, h1, h2⟩ := h.hs
  obtain ⟨g, ⟨c2, h3, h3'⟩, h4⟩ := h.us
  obtain ⟨n1, n2, n3⟩ := h.ne
  refine ⟨(Below.heap_setCell _ _ _ _ n1).trans h.row, ⟨_, h1.set i (.bool true), fun j hj => ?_⟩, ⟨g, ⟨c2, (Below.heap_setCell _ _ _ _ (fun e => n3 e.symm)).trans h3, h3'⟩, h4⟩, h.nh, h.nu, h.mh, h.mu, h.Bq, h.Bh, h.Bu⟩
  show (if j = i then _ else _) = Value.bool ((A.so ||| 2 ^ i).testBit j)
  rw [Nat.testBit_or, Nat.testBit_two_pow]
  by_cases e : j = i
  · subst e; simp
  · rw [if_neg e, h2 j hj, decide_eq_false (fun q => e q.symm), Bool.or_false]
theorem Ra.setU {w : World} {B q r n : Nat} {A : AcD} {bh ch bu cu : Nat} (h : Ra w B q r n A bh ch bu cu) {i : Nat} (_ : i < n) (e m : Int) : Ra ((w.setCell ⟨bu, i * 2, none⟩ (.int .u32 e)).setCell ⟨bu, i * 2 + 1, none⟩ (.int .u32 m)) B q r n ⟨A.so, fun j => if j = i then e else A.e j, fun j => if j = i then m else A.m j⟩ bh ch bu cu := by
  obtain ⟨f, ⟨c1, h1, h1'⟩, h2⟩ := h.hs
  obtain ⟨g, h3, h4⟩ := h.us
  obtain ⟨n1, n2, n3⟩ := h.ne
  refine ⟨((Below.heap_setCell _ _ _ _ n2).trans (Below.heap_setCell _ _ _ _ n2)).trans h.row, ⟨f, ⟨c1, ((Below.heap_setCell _ _ _ _ n3).trans (Below.heap_setCell _ _ _ _ n3)).trans h1, h1'⟩, h2⟩, ⟨_, (h3.set (i * 2) (.int .u32 e)).set (i * 2 + 1) (.int .u32 m), fun j hj => ⟨?_, ?_⟩⟩, h.nh, h.nu, h.mh, h.mu, h.Bq, h.Bh, h.Bu⟩
  · show (if j * 2 = i * 2 + 1 then _ else if j * 2 = i * 2 then _ else _) = Value.int .u32 (if j = i then e else A.e j)
    rw [if_neg (by omega)]
    by_cases t : j = i
    · rw [if_pos (by omega), if_pos t]
    · rw [if_neg (by omega), if_neg t, (h4 j hj).1]
  · show (if j * 2 + 1 = i * 2 + 1 then _ else if j * 2 + 1 = i * 2 then _ else _) = Value.int .u32 (if j = i then m else A.m j)
    by_cases t : j = i
    · rw [if_pos (by omega), if_pos t]
    · rw [if_neg (by omega), if_neg (by omega), if_neg t, (h4 j hj).2]
theorem kept_up {w w' : World} {g o : Nat} {v : Value} {S : Nat → Prop} (h : Kept w w' S) (hg : S g) : Kept w (w'.setCell ⟨g, o, none⟩ v) S := h.setCell _ _ (fun _ => hg)
theorem kept_dr {w w' : World} {S : Nat → Prop} (h : Kept w w' S) : Kept w w'.drew S := ⟨h.os, h.tape, h.output, h.size, h.block⟩

theorem refPut_no {w : World} {B q r : Nat} {ws gs : List Int} {A : AcD} {bh ch bu cu : Nat} (ok : NewOk ws gs) (hI : IsDs w r ws gs) (hR : Ra w B q r ws.length A bh ch bu cu) (v e m : Int) (h0 : -128 ≤ v) (h1 : v ≤ 127) (hv : ¬ (0 ≤ v ∧ v < (ws.length : Int))) : Calls Try.prog 21 #[.pointer (some ⟨q, 0, none⟩), .int .i8 v, zx e m] w fun x w' => x = .returned (.int .i64 1) ∧ Below w.heap.size w w' := by
  have hz := hR.lt.1
  obtain ⟨W0, hW0⟩ : ∃ W0, W0 = w.alloc (.cells #[.int .u32 e, .int .u32 m] 38) := ⟨_, rfl⟩
  have hb0 : Below w.heap.size w W0 := by rw [hW0]; exact one_alloc w _
  have hR0 := hR.below hb0
  have c0 := hR0.c0
  have hz0 := hR0.lt.1
  have HS := refIs20 (hI.below hb0) ok v h0 h1
  rw [decide_eq_false hv] at HS
  have HSv : Hid (Calls Try.prog 39 #[.pointer (some ⟨r, 0, none⟩), .int .i8 v] W0 fun e w' => e = .returned (.bool false) ∧ w' = W0) := HS
  have HB : Hid (Below w.heap.size w W0) := hb0
  have HW0 : Hid (w.alloc (.cells #[.int .u32 e, .int .u32 m] 38) = W0) := hW0.symm
  clear hW0 HS hI hR hR0 ok hv hb0
  go_enter Try.func21, Try.ntmps21
  go_upto_region 1 with fail
  rw [HW0.out]
  clear HW0
  go_wp2_with fail
  refine Calls.mono HSv.out ?_
  rintro e1 w1 ⟨rfl, hw1⟩
  rw [hw1]
  clear hw1 w1 HSv
  go_wp2
  all_goals (go_ret; exact ⟨rfl, HB.out⟩)

theorem refPut_yes {w : World} {B q r i : Nat} {ws gs : List Int} {A : AcD} {bh ch bu cu : Nat} (ok : NewOk ws gs) (hI : IsDs w r ws gs) (hR : Ra w B q r ws.length A bh ch bu cu) (hi : i < ws.length) (e m : Int) : Calls Try.prog 21 #[.pointer (some ⟨q, 0, none⟩), .int .i8 (i : Int), zx e m] w fun x w' => x = .returned (.int .i64 0) ∧ Ra w' B q r ws.length (A.put i e m) bh ch bu cu ∧ Kept w w' (fun k => k = bh ∨ k = bu) := by
  have hz := hR.lt
  have n7 := ok.l7
  have hi0 : (0 : Int) ≤ (i : Int) := by omega
  have hi7 : (i : Int) < 7 := by omega
  have hin : (i : Int) < (ws.length : Int) := by omega
  have hwr : IntKind.i64.wrap (i : Int) = (i : Int) := by rw [IntKind.wrap_i64]; omega
  have HP : Hid (A.put i e m = if A.rea i e m then A else ⟨A.so ||| 2 ^ i, fun j => if j = i then e else A.e j, fun j => if j = i then m else A.m j⟩) := rfl
  have HRe : Hid (A.rea i e m = (A.so.testBit i && decide (0 ≤ zcmp (A.e i) (A.m i) e m))) := rfl
  obtain ⟨W0, hW0⟩ : ∃ W0, W0 = w.alloc (.cells #[.int .u32 e, .int .u32 m] 38) := ⟨_, rfl⟩
  have hb0 : Below w.heap.size w W0 := by rw [hW0]; exact one_alloc w _
  have hR0 := hR.below hb0
  have b0 : W0.cell? ⟨w.heap.size, 0, none⟩ = some (.int .u32 e) := by rw [hW0]; exact cell_of_row _ _ 0 _ _ _ (heap_alloc_new _ _)
  have b1 : W0.cell? ⟨w.heap.size, 1, none⟩ = some (.int .u32 m) := by rw [hW0]; exact cell_of_row _ _ 1 _ _ _ (heap_alloc_new _ _)
  have HS := refIs20 (hI.below hb0) ok (i : Int) (by omega) (by omega)
  rw [decide_eq_true (show (0 : Int) ≤ (i : Int) ∧ (i : Int) < (ws.length : Int) by omega)] at HS
  have HSv : Hid (Calls Try.prog 39 #[.pointer (some ⟨r, 0, none⟩), .int .i8 (i : Int)] W0 fun e w' => e = .returned (.bool true) ∧ w' = W0) := HS
  have HA : Hid (Ra W0 B q r ws.length A bh ch bu cu) := hR0
  have hz0 := hR0.lt
  have c0 := hR0.c0
  have c1 := hR0.c1
  have c2 := hR0.c2
  have cb := hR0.ch hi
  have ce := hR0.ce hi
  have cm := hR0.cm hi
  have nh := hR0.nh
  have nu := hR0.nu
  have HB0 : Hid (Below w.heap.size w W0) := hb0
  have HW0 : Hid (w.alloc (.cells #[.int .u32 e, .int .u32 m] 38) = W0) := hW0.symm
  clear hW0 HS hI hR hR0 ok hb0
  generalize ws.length = n at *
  have HI : Hid (i < n) := hi
  obtain ⟨zq, zh, zu⟩ := hz0
  obtain ⟨C, hC⟩ : ∃ C, C = A.put i e m := ⟨_, rfl⟩
  rw [← hC] at HP ⊢
  clear hC
  generalize A.rea i e m = ra at *
  cases hb : A.so.testBit i with
  | false =>
    rw [hb] at cb HRe
    have g0 : W0.cell? ⟨q, 1, none⟩ = some (.slice (some ⟨bh, 0, none⟩) n ch) ∧ W0.cell? ⟨bh, i, none⟩ = some (.bool false) := ⟨c1, cb⟩
    have HE : Hid (C = ⟨A.so ||| 2 ^ i, fun j => if j = i then e else A.e j, fun j => if j = i then m else A.m j⟩) := by
      show _ = _
      rw [HP.out, HRe.out]; rfl
    have HA2 : Hid (Ra W0 B q r n A bh ch bu cu) := HA.out
    have HK2 : Hid (Kept w W0 (fun k => k = bh ∨ k = bu)) := kept_of_below HB0.out
    have d0 : W0.cell? ⟨w.heap.size, 0, none⟩ = some (.int .u32 e) := b0
    have d1 : W0.cell? ⟨w.heap.size, 1, none⟩ = some (.int .u32 m) := b1
    clear hb HRe HP HA HB0
    go_enter Try.func21, Try.ntmps21
    go_upto_region 1 with fail
    rw [HW0.out]
    clear HW0
    go_wp2_with fail
    refine Calls.mono HSv.out ?_
    rintro e1 w1 ⟨rfl, hw1⟩
    rw [hw1]
    clear hw1 w1 HSv
    go_wp2_with fail
    refine wp_region_held_drew (S := (fun W => W.cell? ⟨q, 1, none⟩ = some (.slice (some ⟨bh, 0, none⟩) n ch) ∧ W.cell? ⟨bh, i, none⟩ = some (.bool false))) (by kernel_rfl) ?_ (fun hHeld => ?_)
    · exact g0
    refine wpAnyH_take (i := 0) (oi := { dst := some 14, op := Op.move (Operand.tmp 0), type := 43, pos := "ref.go:121", after := #[], guard := none }) (v := ?_) rfl (by kernel_rfl) (by kernel_rfl) (by kernel_rfl) (fun _ _ _ h => h) (Or.inl ⟨by rfl, ?_⟩) (by assumption) ?_
    rotate_left
    · (intro w hSw; (try dsimp only at hSw); go_simp) <;> with_reducible rfl
    try simp only [Act.put, List.setIfInBounds_toArray, List.set_cons_zero, List.set_cons_succ]
    refine wpAnyH_take (i := 1) (oi := { dst := some 15, op := Op.nilCheck (Operand.tmp 14), type := 0, pos := "ref.go:121", after := #[{ on := 0, ground := Ground.data }], guard := none }) (v := ?_) rfl (by kernel_rfl) (by kernel_rfl) (by kernel_rfl) (fun _ _ _ h => h) (Or.inl ⟨by rfl, ?_⟩) (by assumption) ?_
    rotate_left
    · (intro w hSw; (try dsimp only at hSw); go_simp) <;> with_reducible rfl
    try simp only [Act.put, List.setIfInBounds_toArray, List.set_cons_zero, List.set_cons_succ]
    refine wpAnyH_take (i := 2) (oi := { dst := some 16, op := Op.fieldAddr 75 (Operand.tmp 15) 1, type := 0, pos := "ref.go:121", after := #[{ on := 1, ground := Ground.data }], guard := none }) (v := ?_) rfl (by kernel_rfl) (by kernel_rfl) (by kernel_rfl) (fun _ _ _ h => h) (Or.inl ⟨by rfl, ?_⟩) (by assumption) ?_
    rotate_left
    · (intro w hSw; (try dsimp only at hSw); go_simp) <;> with_reducible rfl
    try simp only [Act.put, List.setIfInBounds_toArray, List.set_cons_zero, List.set_cons_succ]
    refine wpAnyH_take (i := 3) (oi := { dst := some 17, op := Op.load 72 (Operand.tmp 16), type := 72, pos := "ref.go:121", after := #[{ on := 2, ground := Ground.data }], guard := none }) (v := ?_) rfl (by kernel_rfl) (by kernel_rfl) (by kernel_rfl) (fun _ _ _ h => h) (Or.inl ⟨by rfl, ?_⟩) (by assumption) ?_
    rotate_left
    · (intro w hSw; (try dsimp only at hSw); go_simp) <;> with_reducible rfl
    try simp only [Act.put, List.setIfInBounds_toArray, List.set_cons_zero, List.set_cons_succ]
    refine wpAnyH_take (i := 4) (oi := { dst := some 18, op := Op.move (Operand.tmp 1), type := 48, pos := "ref.go:121", after := #[], guard := none }) (v := ?_) rfl (by kernel_rfl) (by kernel_rfl) (by kernel_rfl) (fun _ _ _ h => h) (Or.inl ⟨by rfl, ?_⟩) (by assumption) ?_
    rotate_left
    · (intro w hSw; (try dsimp only at hSw); go_simp) <;> with_reducible rfl
    try simp only [Act.put, List.setIfInBounds_toArray, List.set_cons_zero, List.set_cons_succ]
    refine wpAnyH_take (i := 5) (oi := { dst := some 19, op := Op.indexAddr 72 (Operand.tmp 17) (Operand.tmp 18), type := 0, pos := "ref.go:121", after := #[{ on := 3, ground := Ground.data }, { on := 4, ground := Ground.data }], guard := none }) (v := ?_) rfl (by kernel_rfl) (by kernel_rfl) (by kernel_rfl) (fun _ _ _ h => h) (Or.inl ⟨by rfl, ?_⟩) (by assumption) ?_
    rotate_left
    · (intro w hSw; (try dsimp only at hSw); go_simp) <;> with_reducible rfl
    try simp only [Act.put, List.setIfInBounds_toArray, List.set_cons_zero, List.set_cons_succ]
    refine wpAnyH_take (i := 6) (oi := { dst := some 20, op := Op.load 4 (Operand.tmp 19), type := 4, pos := "ref.go:121", after := #[{ on := 5, ground := Ground.data }], guard := none }) (v := ?_) rfl (by kernel_rfl) (by kernel_rfl) (by kernel_rfl) (fun _ _ _ h => h) (Or.inl ⟨by rfl, ?_⟩) (by assumption) ?_
    rotate_left
    · (intro w hSw; (try dsimp only at hSw); go_simp) <;> with_reducible rfl
    try simp only [Act.put, List.setIfInBounds_toArray, List.set_cons_zero, List.set_cons_succ]
    refine wpAnyH_take (i := 7) (oi := { dst := some 21, op := Op.unOp UnOp.not 4 (Operand.tmp 20), type := 4, pos := "ref.go:121", after := #[{ on := 6, ground := Ground.data }], guard := none }) (v := ?_) rfl (by kernel_rfl) (by kernel_rfl) (by kernel_rfl) (fun _ _ _ h => h) (Or.inl ⟨by rfl, ?_⟩) (by assumption) ?_
    rotate_left
    · (intro w hSw; (try dsimp only at hSw); go_simp) <;> with_reducible rfl
    try simp only [Act.put, List.setIfInBounds_toArray, List.set_cons_zero, List.set_cons_succ]
    refine wpAnyH_take (i := 8) (oi := { dst := some 22, op := Op.move (Operand.tmp 21), type := 4, pos := "ref.go:121", after := #[{ on := 7, ground := Ground.data }], guard := none }) (v := ?_) rfl (by kernel_rfl) (by kernel_rfl) (by kernel_rfl) (fun _ _ _ h => h) (Or.inl ⟨by rfl, ?_⟩) (by assumption) ?_
    rotate_left
    · (intro w hSw; (try dsimp only at hSw); go_simp) <;> with_reducible rfl
    try simp only [Act.put, List.setIfInBounds_toArray, List.set_cons_zero, List.set_cons_succ]
    refine wpAnyH_take (i := 9) (oi := { dst := some 23, op := Op.move (Operand.tmp 0), type := 43, pos := "ref.go:121", after := #[{ on := 8, ground := Ground.guard }], guard := some (8, false) }) (v := undef) rfl (by kernel_rfl) (by kernel_rfl) (by kernel_rfl) (fun _ _ _ h => h) (Or.inr ⟨by rfl, rfl⟩) (by assumption) ?_
    try simp only [Act.put, List.setIfInBounds_toArray, List.set_cons_zero, List.set_cons_succ]
    refine wpAnyH_take (i := 10) (oi := { dst := some 24, op := Op.nilCheck (Operand.tmp 23), type := 0, pos := "ref.go:121", after := #[{ on := 9, ground := Ground.data }, { on := 8, ground := Ground.guard }], guard := some (8, false) }) (v := undef) rfl (by kernel_rfl) (by kernel_rfl) (by kernel_rfl) (fun _ _ _ h => h) (Or.inr ⟨by rfl, rfl⟩) (by assumption) ?_
    try simp only [Act.put, List.setIfInBounds_toArray, List.set_cons_zero, List.set_cons_succ]
    refine wpAnyH_take (i := 11) (oi := { dst := some 25, op := Op.fieldAddr 75 (Operand.tmp 24) 2, type := 0, pos := "ref.go:121", after := #[{ on := 10, ground := Ground.data }, { on := 8, ground := Ground.guard }], guard := some (8, false) }) (v := undef) rfl (by kernel_rfl) (by kernel_rfl) (by kernel_rfl) (fun _ _ _ h => h) (Or.inr ⟨by rfl, rfl⟩) (by assumption) ?_
    try simp only [Act.put, List.setIfInBounds_toArray, List.set_cons_zero, List.set_cons_succ]
    refine wpAnyH_take (i := 12) (oi := { dst := some 26, op := Op.load 73 (Operand.tmp 25), type := 73, pos := "ref.go:121", after := #[{ on := 11, ground := Ground.data }, { on := 8, ground := Ground.guard }], guard := some (8, false) }) (v := undef) rfl (by kernel_rfl) (by kernel_rfl) (by kernel_rfl) (fun _ _ _ h => h) (Or.inr ⟨by rfl, rfl⟩) (by assumption) ?_
    try simp only [Act.put, List.setIfInBounds_toArray, List.set_cons_zero, List.set_cons_succ]
    refine wpAnyH_take (i := 13) (oi := { dst := some 27, op := Op.move (Operand.tmp 1), type := 48, pos := "ref.go:121", after := #[{ on := 8, ground := Ground.guard }], guard := some (8, false) }) (v := undef) rfl (by kernel_rfl) (by kernel_rfl) (by kernel_rfl) (fun _ _ _ h => h) (Or.inr ⟨by rfl, rfl⟩) (by assumption) ?_
    try simp only [Act.put, List.setIfInBounds_toArray, List.set_cons_zero, List.set_cons_succ]
    refine wpAnyH_take (i := 14) (oi := { dst := some 28, op := Op.indexAddr 73 (Operand.tmp 26) (Operand.tmp 27), type := 0, pos := "ref.go:121", after := #[{ on := 12, ground := Ground.data }, { on := 13, ground := Ground.data }, { on := 8, ground := Ground.guard }], guard := some (8, false) }) (v := undef) rfl (by kernel_rfl) (by kernel_rfl) (by kernel_rfl) (fun _ _ _ h => h) (Or.inr ⟨by rfl, rfl⟩) (by assumption) ?_
    try simp only [Act.put, List.setIfInBounds_toArray, List.set_cons_zero, List.set_cons_succ]
    refine wpAnyH_take (i := 15) (oi := { dst := some 29, op := Op.load 38 (Operand.tmp 28), type := 38, pos := "ref.go:121", after := #[{ on := 14, ground := Ground.data }, { on := 8, ground := Ground.guard }], guard := some (8, false) }) (v := undef) rfl (by kernel_rfl) (by kernel_rfl) (by kernel_rfl) (fun _ _ _ h => h) (Or.inr ⟨by rfl, rfl⟩) (by assumption) ?_
    try simp only [Act.put, List.setIfInBounds_toArray, List.set_cons_zero, List.set_cons_succ]
    refine wpAnyH_take (i := 16) (oi := { dst := some 30, op := Op.load 38 (Operand.tmp 5), type := 38, pos := "ref.go:121", after := #[{ on := 8, ground := Ground.guard }], guard := some (8, false) }) (v := undef) rfl (by kernel_rfl) (by kernel_rfl) (by kernel_rfl) (fun _ _ _ h => h) (Or.inr ⟨by rfl, rfl⟩) (by assumption) ?_
    try simp only [Act.put, List.setIfInBounds_toArray, List.set_cons_zero, List.set_cons_succ]
    refine wpAnyH_ready (rs := [17]) (by kernel_rfl) (by simp) ?_
    refine AllReadyH.cons (o := { dst := some 31, op := Op.call { callee := Callee.value (Operand.func 29), args := #[Operand.tmp 29, Operand.tmp 30], argTypes := #[38, 38] }, type := 3, pos := "ref.go:121", after := #[{ on := 15, ground := Ground.data }, { on := 16, ground := Ground.data }, { on := 8, ground := Ground.chain }, { on := 8, ground := Ground.guard }], guard := some (8, false) }) rfl (fun K hK => ?_) AllReadyH.nil
    go_simp
    refine hK.out _ _ (by assumption) (fun _ => ?_)
    clear hK K
    refine wpAnyH_take (i := 18) (oi := { dst := some 32, op := Op.binOp BinOp.lss 3 (Operand.tmp 31) (Operand.const (Value.int IntKind.i64 0)) 3, type := 4, pos := "ref.go:121", after := #[{ on := 17, ground := Ground.data }, { on := 8, ground := Ground.guard }], guard := some (8, false) }) (v := undef) rfl (by kernel_rfl) (by kernel_rfl) (by kernel_rfl) (fun _ _ _ h => h) (Or.inr ⟨by rfl, rfl⟩) (by assumption) ?_
    try simp only [Act.put, List.setIfInBounds_toArray, List.set_cons_zero, List.set_cons_succ]
    refine wpAnyH_take (i := 19) (oi := { dst := some 33, op := Op.pick (Operand.tmp 22) (Operand.const (Value.bool true)) (Operand.tmp 32), type := 4, pos := "ref.go:121", after := #[{ on := 8, ground := Ground.data }, { on := 18, ground := Ground.data }], guard := none }) (v := ?_) rfl (by kernel_rfl) (by kernel_rfl) (by kernel_rfl) (fun _ _ _ h => h) (Or.inl ⟨by rfl, ?_⟩) (by assumption) ?_
    rotate_left
    · (intro w hSw; (try dsimp only at hSw); go_simp) <;> with_reducible rfl
    try simp only [Act.put, List.setIfInBounds_toArray, List.set_cons_zero, List.set_cons_succ]
    refine wpAnyH_done (by kernel_rfl) ?_ _
    clear hHeld
    have y0 := HA2.out.c1
    have y1 := HA2.out.c2
    have f1 : W0.frozen? ⟨bh, i, none⟩ = false := by
      obtain ⟨f, h1, _⟩ := HA2.out.hs
      exact h1.frozen i
    have zh2 := HA2.out.lt.2.1
    have zu2 := HA2.out.lt.2.2
    have zq2 := HA2.out.lt.1
    have cb2 := HA2.out.ch HI.out
    obtain ⟨V, hV⟩ : ∃ V, V = (W0.setCell ⟨bh, i, none⟩ (.bool true)).drew := ⟨_, rfl⟩
    have hA3 := (HA2.out.setH HI.out).drew
    rw [← hV] at hA3
    have y2 := hA3.c2
    have f2 : V.frozen? ⟨bu, i * 2, none⟩ = false := by
      obtain ⟨f, h1, _⟩ := hA3.us
      exact h1.frozen _
    have f3 : V.frozen? ⟨bu, i * 2 + 1, none⟩ = false := by
      obtain ⟨f, h1, _⟩ := hA3.us
      exact h1.frozen _
    have ce3 := hA3.ce HI.out
    have cm3 := hA3.cm HI.out
    have zu3 := hA3.lt.2.2
    have hwb : w.heap.size ≠ bh := by omega
    have x0 : V.cell? ⟨w.heap.size, 0, none⟩ = some (.int .u32 e) := by rw [hV]; exact (World.cell?_of_block (Below.heap_setCell _ _ _ _ hwb)).trans d0
    have x1 : V.cell? ⟨w.heap.size, 1, none⟩ = some (.int .u32 m) := by rw [hV]; exact (World.cell?_of_block (Below.heap_setCell _ _ _ _ hwb)).trans d1
    have HX : Hid (Ra ((V.setCell ⟨bu, i * 2, none⟩ (.int .u32 e)).setCell ⟨bu, i * 2 + 1, none⟩ (.int .u32 m)).drew B q r n C bh ch bu cu ∧ Kept w ((V.setCell ⟨bu, i * 2, none⟩ (.int .u32 e)).setCell ⟨bu, i * 2 + 1, none⟩ (.int .u32 m)).drew (fun k => k = bh ∨ k = bu)) := by
      refine ⟨?_, kept_dr (kept_up (kept_up ?_ (.inr rfl)) (.inr rfl))⟩
      · rw [HE.out]; exact (hA3.setU HI.out e m).drew
      · rw [hV]; exact kept_dr (kept_up HK2.out (.inl rfl))
    have HV : Hid ((W0.setCell ⟨bh, i, none⟩ (.bool true)).drew = V) := hV.symm
    clear hV hA3 HA2 HK2 HE hwb
    go_upto_region 5 with fail
    rw [HV.out]
    clear HV
    go_wp2_with fail
    go_region
    go_wp2
    all_goals (go_ret; exact ⟨rfl, HX.out⟩)
  | true =>
    rw [hb] at cb HRe
    have g0 : W0.cell? ⟨q, 1, none⟩ = some (.slice (some ⟨bh, 0, none⟩) n ch) ∧ W0.cell? ⟨bh, i, none⟩ = some (.bool true) ∧ W0.cell? ⟨q, 2, none⟩ = some (.slice (some ⟨bu, 0, none⟩) n cu) ∧ W0.cell? ⟨bu, i * 2, none⟩ = some (.int .u32 (A.e i)) ∧ W0.cell? ⟨bu, i * 2 + 1, none⟩ = some (.int .u32 (A.m i)) ∧ W0.cell? ⟨w.heap.size, 0, none⟩ = some (.int .u32 e) ∧ W0.cell? ⟨w.heap.size, 1, none⟩ = some (.int .u32 m) := ⟨c1, cb, c2, ce, cm, b0, b1⟩
    rw [Bool.true_and] at HRe
    clear hb
    generalize hzc : zcmp (A.e i) (A.m i) e m = zc at *
    have HZc : Hid (zcmp (A.e i) (A.m i) e m = zc) := hzc
    clear hzc
    by_cases hc : zc < 0
    · have HE : Hid (C = ⟨A.so ||| 2 ^ i, fun j => if j = i then e else A.e j, fun j => if j = i then m else A.m j⟩) := by
        show _ = _
        rw [HP.out, HRe.out, decide_eq_false (by omega)]; rfl
      clear HRe HP
      go_enter Try.func21, Try.ntmps21
      go_upto_region 1 with fail
      rw [HW0.out]
      clear HW0
      go_wp2_with fail
      refine Calls.mono HSv.out ?_
      rintro e1 w1 ⟨rfl, hw1⟩
      rw [hw1]
      clear hw1 w1 HSv
      go_wp2_with fail
      refine wp_region_held_drew (S := (fun W => W.cell? ⟨q, 1, none⟩ = some (.slice (some ⟨bh, 0, none⟩) n ch) ∧ W.cell? ⟨bh, i, none⟩ = some (.bool true) ∧ W.cell? ⟨q, 2, none⟩ = some (.slice (some ⟨bu, 0, none⟩) n cu) ∧ W.cell? ⟨bu, i * 2, none⟩ = some (.int .u32 (A.e i)) ∧ W.cell? ⟨bu, i * 2 + 1, none⟩ = some (.int .u32 (A.m i)) ∧ W.cell? ⟨w.heap.size, 0, none⟩ = some (.int .u32 e) ∧ W.cell? ⟨w.heap.size, 1, none⟩ = some (.int .u32 m))) (by kernel_rfl) ?_ (fun hHeld => ?_)
      · exact g0
      refine wpAnyH_take (i := 0) (oi := { dst := some 14, op := Op.move (Operand.tmp 0), type := 43, pos := "ref.go:121", after := #[], guard := none }) (v := ?_) rfl (by kernel_rfl) (by kernel_rfl) (by kernel_rfl) (fun _ _ _ h => h) (Or.inl ⟨by rfl, ?_⟩) (by assumption) ?_
      rotate_left
      · (intro w hSw; (try dsimp only at hSw); go_simp) <;> with_reducible rfl
      try simp only [Act.put, List.setIfInBounds_toArray, List.set_cons_zero, List.set_cons_succ]
      refine wpAnyH_take (i := 1) (oi := { dst := some 15, op := Op.nilCheck (Operand.tmp 14), type := 0, pos := "ref.go:121", after := #[{ on := 0, ground := Ground.data }], guard := none }) (v := ?_) rfl (by kernel_rfl) (by kernel_rfl) (by kernel_rfl) (fun _ _ _ h => h) (Or.inl ⟨by rfl, ?_⟩) (by assumption) ?_
      rotate_left
      · (intro w hSw; (try dsimp only at hSw); go_simp) <;> with_reducible rfl
      try simp only [Act.put, List.setIfInBounds_toArray, List.set_cons_zero, List.set_cons_succ]
      refine wpAnyH_take (i := 2) (oi := { dst := some 16, op := Op.fieldAddr 75 (Operand.tmp 15) 1, type := 0, pos := "ref.go:121", after := #[{ on := 1, ground := Ground.data }], guard := none }) (v := ?_) rfl (by kernel_rfl) (by kernel_rfl) (by kernel_rfl) (fun _ _ _ h => h) (Or.inl ⟨by rfl, ?_⟩) (by assumption) ?_
      rotate_left
      · (intro w hSw; (try dsimp only at hSw); go_simp) <;> with_reducible rfl
      try simp only [Act.put, List.setIfInBounds_toArray, List.set_cons_zero, List.set_cons_succ]
      refine wpAnyH_take (i := 3) (oi := { dst := some 17, op := Op.load 72 (Operand.tmp 16), type := 72, pos := "ref.go:121", after := #[{ on := 2, ground := Ground.data }], guard := none }) (v := ?_) rfl (by kernel_rfl) (by kernel_rfl) (by kernel_rfl) (fun _ _ _ h => h) (Or.inl ⟨by rfl, ?_⟩) (by assumption) ?_
      rotate_left
      · (intro w hSw; (try dsimp only at hSw); go_simp) <;> with_reducible rfl
      try simp only [Act.put, List.setIfInBounds_toArray, List.set_cons_zero, List.set_cons_succ]
      refine wpAnyH_take (i := 4) (oi := { dst := some 18, op := Op.move (Operand.tmp 1), type := 48, pos := "ref.go:121", after := #[], guard := none }) (v := ?_) rfl (by kernel_rfl) (by kernel_rfl) (by kernel_rfl) (fun _ _ _ h => h) (Or.inl ⟨by rfl, ?_⟩) (by assumption) ?_
      rotate_left
      · (intro w hSw; (try dsimp only at hSw); go_simp) <;> with_reducible rfl
      try simp only [Act.put, List.setIfInBounds_toArray, List.set_cons_zero, List.set_cons_succ]
      refine wpAnyH_take (i := 5) (oi := { dst := some 19, op := Op.indexAddr 72 (Operand.tmp 17) (Operand.tmp 18), type := 0, pos := "ref.go:121", after := #[{ on := 3, ground := Ground.data }, { on := 4, ground := Ground.data }], guard := none }) (v := ?_) rfl (by kernel_rfl) (by kernel_rfl) (by kernel_rfl) (fun _ _ _ h => h) (Or.inl ⟨by rfl, ?_⟩) (by assumption) ?_
      rotate_left
      · (intro w hSw; (try dsimp only at hSw); go_simp) <;> with_reducible rfl
      try simp only [Act.put, List.setIfInBounds_toArray, List.set_cons_zero, List.set_cons_succ]
      refine wpAnyH_take (i := 6) (oi := { dst := some 20, op := Op.load 4 (Operand.tmp 19), type := 4, pos := "ref.go:121", after := #[{ on := 5, ground := Ground.data }], guard := none }) (v := ?_) rfl (by kernel_rfl) (by kernel_rfl) (by kernel_rfl) (fun _ _ _ h => h) (Or.inl ⟨by rfl, ?_⟩) (by assumption) ?_
      rotate_left
      · (intro w hSw; (try dsimp only at hSw); go_simp) <;> with_reducible rfl
      try simp only [Act.put, List.setIfInBounds_toArray, List.set_cons_zero, List.set_cons_succ]
      refine wpAnyH_take (i := 7) (oi := { dst := some 21, op := Op.unOp UnOp.not 4 (Operand.tmp 20), type := 4, pos := "ref.go:121", after := #[{ on := 6, ground := Ground.data }], guard := none }) (v := ?_) rfl (by kernel_rfl) (by kernel_rfl) (by kernel_rfl) (fun _ _ _ h => h) (Or.inl ⟨by rfl, ?_⟩) (by assumption) ?_
      rotate_left
      · (intro w hSw; (try dsimp only at hSw); go_simp) <;> with_reducible rfl
      try simp only [Act.put, List.setIfInBounds_toArray, List.set_cons_zero, List.set_cons_succ]
      refine wpAnyH_take (i := 8) (oi := { dst := some 22, op := Op.move (Operand.tmp 21), type := 4, pos := "ref.go:121", after := #[{ on := 7, ground := Ground.data }], guard := none }) (v := ?_) rfl (by kernel_rfl) (by kernel_rfl) (by kernel_rfl) (fun _ _ _ h => h) (Or.inl ⟨by rfl, ?_⟩) (by assumption) ?_
      rotate_left
      · (intro w hSw; (try dsimp only at hSw); go_simp) <;> with_reducible rfl
      try simp only [Act.put, List.setIfInBounds_toArray, List.set_cons_zero, List.set_cons_succ]
      refine wpAnyH_take (i := 9) (oi := { dst := some 23, op := Op.move (Operand.tmp 0), type := 43, pos := "ref.go:121", after := #[{ on := 8, ground := Ground.guard }], guard := some (8, false) }) (v := ?_) rfl (by kernel_rfl) (by kernel_rfl) (by kernel_rfl) (fun _ _ _ h => h) (Or.inl ⟨by rfl, ?_⟩) (by assumption) ?_
      rotate_left
      · (intro w hSw; (try dsimp only at hSw); go_simp) <;> with_reducible rfl
      try simp only [Act.put, List.setIfInBounds_toArray, List.set_cons_zero, List.set_cons_succ]
      refine wpAnyH_take (i := 10) (oi := { dst := some 24, op := Op.nilCheck (Operand.tmp 23), type := 0, pos := "ref.go:121", after := #[{ on := 9, ground := Ground.data }, { on := 8, ground := Ground.guard }], guard := some (8, false) }) (v := ?_) rfl (by kernel_rfl) (by kernel_rfl) (by kernel_rfl) (fun _ _ _ h => h) (Or.inl ⟨by rfl, ?_⟩) (by assumption) ?_
      rotate_left
      · (intro w hSw; (try dsimp only at hSw); go_simp) <;> with_reducible rfl
      try simp only [Act.put, List.setIfInBounds_toArray, List.set_cons_zero, List.set_cons_succ]
      refine wpAnyH_take (i := 11) (oi := { dst := some 25, op := Op.fieldAddr 75 (Operand.tmp 24) 2, type := 0, pos := "ref.go:121", after := #[{ on := 10, ground := Ground.data }, { on := 8, ground := Ground.guard }], guard := some (8, false) }) (v := ?_) rfl (by kernel_rfl) (by kernel_rfl) (by kernel_rfl) (fun _ _ _ h => h) (Or.inl ⟨by rfl, ?_⟩) (by assumption) ?_
      rotate_left
      · (intro w hSw; (try dsimp only at hSw); go_simp) <;> with_reducible rfl
      try simp only [Act.put, List.setIfInBounds_toArray, List.set_cons_zero, List.set_cons_succ]
      refine wpAnyH_take (i := 12) (oi := { dst := some 26, op := Op.load 73 (Operand.tmp 25), type := 73, pos := "ref.go:121", after := #[{ on := 11, ground := Ground.data }, { on := 8, ground := Ground.guard }], guard := some (8, false) }) (v := ?_) rfl (by kernel_rfl) (by kernel_rfl) (by kernel_rfl) (fun _ _ _ h => h) (Or.inl ⟨by rfl, ?_⟩) (by assumption) ?_
      rotate_left
      · (intro w hSw; (try dsimp only at hSw); go_simp) <;> with_reducible rfl
      try simp only [Act.put, List.setIfInBounds_toArray, List.set_cons_zero, List.set_cons_succ]
      refine wpAnyH_take (i := 13) (oi := { dst := some 27, op := Op.move (Operand.tmp 1), type := 48, pos := "ref.go:121", after := #[{ on := 8, ground := Ground.guard }], guard := some (8, false) }) (v := ?_) rfl (by kernel_rfl) (by kernel_rfl) (by kernel_rfl) (fun _ _ _ h => h) (Or.inl ⟨by rfl, ?_⟩) (by assumption) ?_
      rotate_left
      · (intro w hSw; (try dsimp only at hSw); go_simp) <;> with_reducible rfl
      try simp only [Act.put, List.setIfInBounds_toArray, List.set_cons_zero, List.set_cons_succ]
      refine wpAnyH_take (i := 14) (oi := { dst := some 28, op := Op.indexAddr 73 (Operand.tmp 26) (Operand.tmp 27), type := 0, pos := "ref.go:121", after := #[{ on := 12, ground := Ground.data }, { on := 13, ground := Ground.data }, { on := 8, ground := Ground.guard }], guard := some (8, false) }) (v := ?_) rfl (by kernel_rfl) (by kernel_rfl) (by kernel_rfl) (fun _ _ _ h => h) (Or.inl ⟨by rfl, ?_⟩) (by assumption) ?_
      rotate_left
      · (intro w hSw; (try dsimp only at hSw); go_simp) <;> with_reducible rfl
      try simp only [Act.put, List.setIfInBounds_toArray, List.set_cons_zero, List.set_cons_succ]
      refine wpAnyH_take (i := 15) (oi := { dst := some 29, op := Op.load 38 (Operand.tmp 28), type := 38, pos := "ref.go:121", after := #[{ on := 14, ground := Ground.data }, { on := 8, ground := Ground.guard }], guard := some (8, false) }) (v := ?_) rfl (by kernel_rfl) (by kernel_rfl) (by kernel_rfl) (fun _ _ _ h => h) (Or.inl ⟨by rfl, ?_⟩) (by assumption) ?_
      rotate_left
      · (intro w hSw; (try dsimp only at hSw); go_simp) <;> with_reducible rfl
      try simp only [Act.put, List.setIfInBounds_toArray, List.set_cons_zero, List.set_cons_succ]
      refine wpAnyH_take (i := 16) (oi := { dst := some 30, op := Op.load 38 (Operand.tmp 5), type := 38, pos := "ref.go:121", after := #[{ on := 8, ground := Ground.guard }], guard := some (8, false) }) (v := ?_) rfl (by kernel_rfl) (by kernel_rfl) (by kernel_rfl) (fun _ _ _ h => h) (Or.inl ⟨by rfl, ?_⟩) (by assumption) ?_
      rotate_left
      · (intro w hSw; (try dsimp only at hSw); go_simp) <;> with_reducible rfl
      try simp only [Act.put, List.setIfInBounds_toArray, List.set_cons_zero, List.set_cons_succ]
      refine wpAnyH_ready (rs := [17]) (by kernel_rfl) (by simp) ?_
      refine AllReadyH.cons (o := { dst := some 31, op := Op.call { callee := Callee.value (Operand.func 29), args := #[Operand.tmp 29, Operand.tmp 30], argTypes := #[38, 38] }, type := 3, pos := "ref.go:121", after := #[{ on := 15, ground := Ground.data }, { on := 16, ground := Ground.data }, { on := 8, ground := Ground.chain }, { on := 8, ground := Ground.guard }], guard := some (8, false) }) rfl (fun K hK => ?_) AllReadyH.nil
      go_simp
      refine (refCompare_any _ _ _ _ _).mono ?_
      rintro e2 w2 ⟨rfl, hb2⟩
      rw [HZc.out]
      have g2 : w2.cell? ⟨q, 1, none⟩ = some (.slice (some ⟨bh, 0, none⟩) n ch) ∧ w2.cell? ⟨bh, i, none⟩ = some (.bool true) ∧ w2.cell? ⟨q, 2, none⟩ = some (.slice (some ⟨bu, 0, none⟩) n cu) ∧ w2.cell? ⟨bu, i * 2, none⟩ = some (.int .u32 (A.e i)) ∧ w2.cell? ⟨bu, i * 2 + 1, none⟩ = some (.int .u32 (A.m i)) ∧ w2.cell? ⟨w.heap.size, 0, none⟩ = some (.int .u32 e) ∧ w2.cell? ⟨w.heap.size, 1, none⟩ = some (.int .u32 m) := ⟨kcell hb2 g0.1, kcell hb2 g0.2.1, kcell hb2 g0.2.2.1, kcell hb2 g0.2.2.2.1, kcell hb2 g0.2.2.2.2.1, kcell hb2 g0.2.2.2.2.2.1, kcell hb2 g0.2.2.2.2.2.2⟩
      have HA2 : Hid (Ra w2 B q r n A bh ch bu cu) := HA.out.drew.below hb2
      have HK2 : Hid (Kept w w2 (fun k => k = bh ∨ k = bu)) := kept_of_below (HB0.out.drew.trans (hb2.mono HB0.out.size))
      clear hb2
      refine hK.out _ _ g2 (fun hHeld => ?_)
      clear hK K
      refine wpAnyH_take (i := 18) (oi := { dst := some 32, op := Op.binOp BinOp.lss 3 (Operand.tmp 31) (Operand.const (Value.int IntKind.i64 0)) 3, type := 4, pos := "ref.go:121", after := #[{ on := 17, ground := Ground.data }, { on := 8, ground := Ground.guard }], guard := some (8, false) }) (v := ?_) rfl (by kernel_rfl) (by kernel_rfl) (by kernel_rfl) (fun _ _ _ h => h) (Or.inl ⟨by rfl, ?_⟩) (by assumption) ?_
      rotate_left
      · (intro w hSw; (try dsimp only at hSw); go_simp) <;> with_reducible rfl
      try simp only [Act.put, List.setIfInBounds_toArray, List.set_cons_zero, List.set_cons_succ]
      refine wpAnyH_take (i := 19) (oi := { dst := some 33, op := Op.pick (Operand.tmp 22) (Operand.const (Value.bool true)) (Operand.tmp 32), type := 4, pos := "ref.go:121", after := #[{ on := 8, ground := Ground.data }, { on := 18, ground := Ground.data }], guard := none }) (v := ?_) rfl (by kernel_rfl) (by kernel_rfl) (by kernel_rfl) (fun _ _ _ h => h) (Or.inl ⟨by rfl, ?_⟩) (by assumption) ?_
      rotate_left
      · (intro w hSw; (try dsimp only at hSw); go_simp) <;> with_reducible rfl
      try simp only [Act.put, List.setIfInBounds_toArray, List.set_cons_zero, List.set_cons_succ]
      refine wpAnyH_done (by kernel_rfl) ?_ _
      clear hHeld
      have y0 := HA2.out.c1
      have y1 := HA2.out.c2
      have f1 : w2.frozen? ⟨bh, i, none⟩ = false := by
        obtain ⟨f, h1, _⟩ := HA2.out.hs
        exact h1.frozen i
      have zh2 := HA2.out.lt.2.1
      have zu2 := HA2.out.lt.2.2
      have zq2 := HA2.out.lt.1
      have cb2 := HA2.out.ch HI.out
      obtain ⟨V, hV⟩ : ∃ V, V = w2.setCell ⟨bh, i, none⟩ (.bool true) := ⟨_, rfl⟩
      have hA3 := HA2.out.setH HI.out
      rw [← hV] at hA3
      have y2 := hA3.c2
      have f2 : V.frozen? ⟨bu, i * 2, none⟩ = false := by
        obtain ⟨f, h1, _⟩ := hA3.us
        exact h1.frozen _
      have f3 : V.frozen? ⟨bu, i * 2 + 1, none⟩ = false := by
        obtain ⟨f, h1, _⟩ := hA3.us
        exact h1.frozen _
      have ce3 := hA3.ce HI.out
      have cm3 := hA3.cm HI.out
      have zu3 := hA3.lt.2.2
      have hwb : w.heap.size ≠ bh := by omega
      have x0 : V.cell? ⟨w.heap.size, 0, none⟩ = some (.int .u32 e) := by rw [hV]; exact (World.cell?_of_block (Below.heap_setCell _ _ _ _ hwb)).trans g2.2.2.2.2.2.1
      have x1 : V.cell? ⟨w.heap.size, 1, none⟩ = some (.int .u32 m) := by rw [hV]; exact (World.cell?_of_block (Below.heap_setCell _ _ _ _ hwb)).trans g2.2.2.2.2.2.2
      have HX : Hid (Ra ((V.setCell ⟨bu, i * 2, none⟩ (.int .u32 e)).setCell ⟨bu, i * 2 + 1, none⟩ (.int .u32 m)).drew B q r n C bh ch bu cu ∧ Kept w ((V.setCell ⟨bu, i * 2, none⟩ (.int .u32 e)).setCell ⟨bu, i * 2 + 1, none⟩ (.int .u32 m)).drew (fun k => k = bh ∨ k = bu)) := by
        refine ⟨?_, kept_dr (kept_up (kept_up ?_ (.inr rfl)) (.inr rfl))⟩
        · rw [HE.out]; exact (hA3.setU HI.out e m).drew
        · rw [hV]; exact kept_up HK2.out (.inl rfl)
      have HV : Hid (w2.setCell ⟨bh, i, none⟩ (.bool true) = V) := hV.symm
      clear hV hA3 HA2 HK2 HE hwb
      go_upto_region 5 with fail
      rw [HV.out]
      clear HV
      go_wp2_with fail
      go_region
      go_wp2
      all_goals (go_ret; exact ⟨rfl, HX.out⟩)
    · have HE : Hid (C = A) := by
        show _ = _
        rw [HP.out, HRe.out, decide_eq_true (by omega)]; rfl
      clear HRe HP
      go_enter Try.func21, Try.ntmps21
      go_upto_region 1 with fail
      rw [HW0.out]
      clear HW0
      go_wp2_with fail
      refine Calls.mono HSv.out ?_
      rintro e1 w1 ⟨rfl, hw1⟩
      rw [hw1]
      clear hw1 w1 HSv
      go_wp2_with fail
      refine wp_region_held_drew (S := (fun W => W.cell? ⟨q, 1, none⟩ = some (.slice (some ⟨bh, 0, none⟩) n ch) ∧ W.cell? ⟨bh, i, none⟩ = some (.bool true) ∧ W.cell? ⟨q, 2, none⟩ = some (.slice (some ⟨bu, 0, none⟩) n cu) ∧ W.cell? ⟨bu, i * 2, none⟩ = some (.int .u32 (A.e i)) ∧ W.cell? ⟨bu, i * 2 + 1, none⟩ = some (.int .u32 (A.m i)) ∧ W.cell? ⟨w.heap.size, 0, none⟩ = some (.int .u32 e) ∧ W.cell? ⟨w.heap.size, 1, none⟩ = some (.int .u32 m))) (by kernel_rfl) ?_ (fun hHeld => ?_)
      · exact g0
      refine wpAnyH_take (i := 0) (oi := { dst := some 14, op := Op.move (Operand.tmp 0), type := 43, pos := "ref.go:121", after := #[], guard := none }) (v := ?_) rfl (by kernel_rfl) (by kernel_rfl) (by kernel_rfl) (fun _ _ _ h => h) (Or.inl ⟨by rfl, ?_⟩) (by assumption) ?_
      rotate_left
      · (intro w hSw; (try dsimp only at hSw); go_simp) <;> with_reducible rfl
      try simp only [Act.put, List.setIfInBounds_toArray, List.set_cons_zero, List.set_cons_succ]
      refine wpAnyH_take (i := 1) (oi := { dst := some 15, op := Op.nilCheck (Operand.tmp 14), type := 0, pos := "ref.go:121", after := #[{ on := 0, ground := Ground.data }], guard := none }) (v := ?_) rfl (by kernel_rfl) (by kernel_rfl) (by kernel_rfl) (fun _ _ _ h => h) (Or.inl ⟨by rfl, ?_⟩) (by assumption) ?_
      rotate_left
      · (intro w hSw; (try dsimp only at hSw); go_simp) <;> with_reducible rfl
      try simp only [Act.put, List.setIfInBounds_toArray, List.set_cons_zero, List.set_cons_succ]
      refine wpAnyH_take (i := 2) (oi := { dst := some 16, op := Op.fieldAddr 75 (Operand.tmp 15) 1, type := 0, pos := "ref.go:121", after := #[{ on := 1, ground := Ground.data }], guard := none }) (v := ?_) rfl (by kernel_rfl) (by kernel_rfl) (by kernel_rfl) (fun _ _ _ h => h) (Or.inl ⟨by rfl, ?_⟩) (by assumption) ?_
      rotate_left
      · (intro w hSw; (try dsimp only at hSw); go_simp) <;> with_reducible rfl
      try simp only [Act.put, List.setIfInBounds_toArray, List.set_cons_zero, List.set_cons_succ]
      refine wpAnyH_take (i := 3) (oi := { dst := some 17, op := Op.load 72 (Operand.tmp 16), type := 72, pos := "ref.go:121", after := #[{ on := 2, ground := Ground.data }], guard := none }) (v := ?_) rfl (by kernel_rfl) (by kernel_rfl) (by kernel_rfl) (fun _ _ _ h => h) (Or.inl ⟨by rfl, ?_⟩) (by assumption) ?_
      rotate_left
      · (intro w hSw; (try dsimp only at hSw); go_simp) <;> with_reducible rfl
      try simp only [Act.put, List.setIfInBounds_toArray, List.set_cons_zero, List.set_cons_succ]
      refine wpAnyH_take (i := 4) (oi := { dst := some 18, op := Op.move (Operand.tmp 1), type := 48, pos := "ref.go:121", after := #[], guard := none }) (v := ?_) rfl (by kernel_rfl) (by kernel_rfl) (by kernel_rfl) (fun _ _ _ h => h) (Or.inl ⟨by rfl, ?_⟩) (by assumption) ?_
      rotate_left
      · (intro w hSw; (try dsimp only at hSw); go_simp) <;> with_reducible rfl
      try simp only [Act.put, List.setIfInBounds_toArray, List.set_cons_zero, List.set_cons_succ]
      refine wpAnyH_take (i := 5) (oi := { dst := some 19, op := Op.indexAddr 72 (Operand.tmp 17) (Operand.tmp 18), type := 0, pos := "ref.go:121", after := #[{ on := 3, ground := Ground.data }, { on := 4, ground := Ground.data }], guard := none }) (v := ?_) rfl (by kernel_rfl) (by kernel_rfl) (by kernel_rfl) (fun _ _ _ h => h) (Or.inl ⟨by rfl, ?_⟩) (by assumption) ?_
      rotate_left
      · (intro w hSw; (try dsimp only at hSw); go_simp) <;> with_reducible rfl
      try simp only [Act.put, List.setIfInBounds_toArray, List.set_cons_zero, List.set_cons_succ]
      refine wpAnyH_take (i := 6) (oi := { dst := some 20, op := Op.load 4 (Operand.tmp 19), type := 4, pos := "ref.go:121", after := #[{ on := 5, ground := Ground.data }], guard := none }) (v := ?_) rfl (by kernel_rfl) (by kernel_rfl) (by kernel_rfl) (fun _ _ _ h => h) (Or.inl ⟨by rfl, ?_⟩) (by assumption) ?_
      rotate_left
      · (intro w hSw; (try dsimp only at hSw); go_simp) <;> with_reducible rfl
      try simp only [Act.put, List.setIfInBounds_toArray, List.set_cons_zero, List.set_cons_succ]
      refine wpAnyH_take (i := 7) (oi := { dst := some 21, op := Op.unOp UnOp.not 4 (Operand.tmp 20), type := 4, pos := "ref.go:121", after := #[{ on := 6, ground := Ground.data }], guard := none }) (v := ?_) rfl (by kernel_rfl) (by kernel_rfl) (by kernel_rfl) (fun _ _ _ h => h) (Or.inl ⟨by rfl, ?_⟩) (by assumption) ?_
      rotate_left
      · (intro w hSw; (try dsimp only at hSw); go_simp) <;> with_reducible rfl
      try simp only [Act.put, List.setIfInBounds_toArray, List.set_cons_zero, List.set_cons_succ]
      refine wpAnyH_take (i := 8) (oi := { dst := some 22, op := Op.move (Operand.tmp 21), type := 4, pos := "ref.go:121", after := #[{ on := 7, ground := Ground.data }], guard := none }) (v := ?_) rfl (by kernel_rfl) (by kernel_rfl) (by kernel_rfl) (fun _ _ _ h => h) (Or.inl ⟨by rfl, ?_⟩) (by assumption) ?_
      rotate_left
      · (intro w hSw; (try dsimp only at hSw); go_simp) <;> with_reducible rfl
      try simp only [Act.put, List.setIfInBounds_toArray, List.set_cons_zero, List.set_cons_succ]
      refine wpAnyH_take (i := 9) (oi := { dst := some 23, op := Op.move (Operand.tmp 0), type := 43, pos := "ref.go:121", after := #[{ on := 8, ground := Ground.guard }], guard := some (8, false) }) (v := ?_) rfl (by kernel_rfl) (by kernel_rfl) (by kernel_rfl) (fun _ _ _ h => h) (Or.inl ⟨by rfl, ?_⟩) (by assumption) ?_
      rotate_left
      · (intro w hSw; (try dsimp only at hSw); go_simp) <;> with_reducible rfl
      try simp only [Act.put, List.setIfInBounds_toArray, List.set_cons_zero, List.set_cons_succ]
      refine wpAnyH_take (i := 10) (oi := { dst := some 24, op := Op.nilCheck (Operand.tmp 23), type := 0, pos := "ref.go:121", after := #[{ on := 9, ground := Ground.data }, { on := 8, ground := Ground.guard }], guard := some (8, false) }) (v := ?_) rfl (by kernel_rfl) (by kernel_rfl) (by kernel_rfl) (fun _ _ _ h => h) (Or.inl ⟨by rfl, ?_⟩) (by assumption) ?_
      rotate_left
      · (intro w hSw; (try dsimp only at hSw); go_simp) <;> with_reducible rfl
      try simp only [Act.put, List.setIfInBounds_toArray, List.set_cons_zero, List.set_cons_succ]
      refine wpAnyH_take (i := 11) (oi := { dst := some 25, op := Op.fieldAddr 75 (Operand.tmp 24) 2, type := 0, pos := "ref.go:121", after := #[{ on := 10, ground := Ground.data }, { on := 8, ground := Ground.guard }], guard := some (8, false) }) (v := ?_) rfl (by kernel_rfl) (by kernel_rfl) (by kernel_rfl) (fun _ _ _ h => h) (Or.inl ⟨by rfl, ?_⟩) (by assumption) ?_
      rotate_left
      · (intro w hSw; (try dsimp only at hSw); go_simp) <;> with_reducible rfl
      try simp only [Act.put, List.setIfInBounds_toArray, List.set_cons_zero, List.set_cons_succ]
      refine wpAnyH_take (i := 12) (oi := { dst := some 26, op := Op.load 73 (Operand.tmp 25), type := 73, pos := "ref.go:121", after := #[{ on := 11, ground := Ground.data }, { on := 8, ground := Ground.guard }], guard := some (8, false) }) (v := ?_) rfl (by kernel_rfl) (by kernel_rfl) (by kernel_rfl) (fun _ _ _ h => h) (Or.inl ⟨by rfl, ?_⟩) (by assumption) ?_
      rotate_left
      · (intro w hSw; (try dsimp only at hSw); go_simp) <;> with_reducible rfl
      try simp only [Act.put, List.setIfInBounds_toArray, List.set_cons_zero, List.set_cons_succ]
      refine wpAnyH_take (i := 13) (oi := { dst := some 27, op := Op.move (Operand.tmp 1), type := 48, pos := "ref.go:121", after := #[{ on := 8, ground := Ground.guard }], guard := some (8, false) }) (v := ?_) rfl (by kernel_rfl) (by kernel_rfl) (by kernel_rfl) (fun _ _ _ h => h) (Or.inl ⟨by rfl, ?_⟩) (by assumption) ?_
      rotate_left
      · (intro w hSw; (try dsimp only at hSw); go_simp) <;> with_reducible rfl
      try simp only [Act.put, List.setIfInBounds_toArray, List.set_cons_zero, List.set_cons_succ]
      refine wpAnyH_take (i := 14) (oi := { dst := some 28, op := Op.indexAddr 73 (Operand.tmp 26) (Operand.tmp 27), type := 0, pos := "ref.go:121", after := #[{ on := 12, ground := Ground.data }, { on := 13, ground := Ground.data }, { on := 8, ground := Ground.guard }], guard := some (8, false) }) (v := ?_) rfl (by kernel_rfl) (by kernel_rfl) (by kernel_rfl) (fun _ _ _ h => h) (Or.inl ⟨by rfl, ?_⟩) (by assumption) ?_
      rotate_left
      · (intro w hSw; (try dsimp only at hSw); go_simp) <;> with_reducible rfl
      try simp only [Act.put, List.setIfInBounds_toArray, List.set_cons_zero, List.set_cons_succ]
      refine wpAnyH_take (i := 15) (oi := { dst := some 29, op := Op.load 38 (Operand.tmp 28), type := 38, pos := "ref.go:121", after := #[{ on := 14, ground := Ground.data }, { on := 8, ground := Ground.guard }], guard := some (8, false) }) (v := ?_) rfl (by kernel_rfl) (by kernel_rfl) (by kernel_rfl) (fun _ _ _ h => h) (Or.inl ⟨by rfl, ?_⟩) (by assumption) ?_
      rotate_left
      · (intro w hSw; (try dsimp only at hSw); go_simp) <;> with_reducible rfl
      try simp only [Act.put, List.setIfInBounds_toArray, List.set_cons_zero, List.set_cons_succ]
      refine wpAnyH_take (i := 16) (oi := { dst := some 30, op := Op.load 38 (Operand.tmp 5), type := 38, pos := "ref.go:121", after := #[{ on := 8, ground := Ground.guard }], guard := some (8, false) }) (v := ?_) rfl (by kernel_rfl) (by kernel_rfl) (by kernel_rfl) (fun _ _ _ h => h) (Or.inl ⟨by rfl, ?_⟩) (by assumption) ?_
      rotate_left
      · (intro w hSw; (try dsimp only at hSw); go_simp) <;> with_reducible rfl
      try simp only [Act.put, List.setIfInBounds_toArray, List.set_cons_zero, List.set_cons_succ]
      refine wpAnyH_ready (rs := [17]) (by kernel_rfl) (by simp) ?_
      refine AllReadyH.cons (o := { dst := some 31, op := Op.call { callee := Callee.value (Operand.func 29), args := #[Operand.tmp 29, Operand.tmp 30], argTypes := #[38, 38] }, type := 3, pos := "ref.go:121", after := #[{ on := 15, ground := Ground.data }, { on := 16, ground := Ground.data }, { on := 8, ground := Ground.chain }, { on := 8, ground := Ground.guard }], guard := some (8, false) }) rfl (fun K hK => ?_) AllReadyH.nil
      go_simp
      refine (refCompare_any _ _ _ _ _).mono ?_
      rintro e2 w2 ⟨rfl, hb2⟩
      rw [HZc.out]
      have g2 : w2.cell? ⟨q, 1, none⟩ = some (.slice (some ⟨bh, 0, none⟩) n ch) ∧ w2.cell? ⟨bh, i, none⟩ = some (.bool true) ∧ w2.cell? ⟨q, 2, none⟩ = some (.slice (some ⟨bu, 0, none⟩) n cu) ∧ w2.cell? ⟨bu, i * 2, none⟩ = some (.int .u32 (A.e i)) ∧ w2.cell? ⟨bu, i * 2 + 1, none⟩ = some (.int .u32 (A.m i)) ∧ w2.cell? ⟨w.heap.size, 0, none⟩ = some (.int .u32 e) ∧ w2.cell? ⟨w.heap.size, 1, none⟩ = some (.int .u32 m) := ⟨kcell hb2 g0.1, kcell hb2 g0.2.1, kcell hb2 g0.2.2.1, kcell hb2 g0.2.2.2.1, kcell hb2 g0.2.2.2.2.1, kcell hb2 g0.2.2.2.2.2.1, kcell hb2 g0.2.2.2.2.2.2⟩
      have HA2 : Hid (Ra w2 B q r n A bh ch bu cu) := HA.out.drew.below hb2
      have HK2 : Hid (Kept w w2 (fun k => k = bh ∨ k = bu)) := kept_of_below (HB0.out.drew.trans (hb2.mono HB0.out.size))
      clear hb2
      refine hK.out _ _ g2 (fun hHeld => ?_)
      clear hK K
      refine wpAnyH_take (i := 18) (oi := { dst := some 32, op := Op.binOp BinOp.lss 3 (Operand.tmp 31) (Operand.const (Value.int IntKind.i64 0)) 3, type := 4, pos := "ref.go:121", after := #[{ on := 17, ground := Ground.data }, { on := 8, ground := Ground.guard }], guard := some (8, false) }) (v := ?_) rfl (by kernel_rfl) (by kernel_rfl) (by kernel_rfl) (fun _ _ _ h => h) (Or.inl ⟨by rfl, ?_⟩) (by assumption) ?_
      rotate_left
      · (intro w hSw; (try dsimp only at hSw); go_simp) <;> with_reducible rfl
      try simp only [Act.put, List.setIfInBounds_toArray, List.set_cons_zero, List.set_cons_succ]
      refine wpAnyH_take (i := 19) (oi := { dst := some 33, op := Op.pick (Operand.tmp 22) (Operand.const (Value.bool true)) (Operand.tmp 32), type := 4, pos := "ref.go:121", after := #[{ on := 8, ground := Ground.data }, { on := 18, ground := Ground.data }], guard := none }) (v := ?_) rfl (by kernel_rfl) (by kernel_rfl) (by kernel_rfl) (fun _ _ _ h => h) (Or.inl ⟨by rfl, ?_⟩) (by assumption) ?_
      rotate_left
      · (intro w hSw; (try dsimp only at hSw); go_simp) <;> with_reducible rfl
      try simp only [Act.put, List.setIfInBounds_toArray, List.set_cons_zero, List.set_cons_succ]
      refine wpAnyH_done (by kernel_rfl) ?_ _
      clear hHeld
      have HX : Hid (Ra w2 B q r n C bh ch bu cu) := by rw [HE.out]; exact HA2.out
      go_wp2
      all_goals (go_ret; exact ⟨rfl, HX.out, HK2.out⟩)

/-- Put, of any number: what it changes. -/
theorem refPut_fine {w : World} {B q r : Nat} {ws gs : List Int} {A : AcD} {bh ch bu cu : Nat} (ok : NewOk ws gs) (hI : IsDs w r ws gs) (hR : Ra w B q r ws.length A bh ch bu cu) (v e m : Int) (h0 : -128 ≤ v) (h1 : v ≤ 127) : Calls Try.prog 21 #[.pointer (some ⟨q, 0, none⟩), .int .i8 v, zx e m] w fun x w' => x = .returned (.int .i64 (putE (syD ws gs) v)) ∧ Ra w' B q r ws.length (A.putV (syD ws gs) v e m) bh ch bu cu ∧ Kept w w' (fun k => k = bh ∨ k = bu) := by
  unfold putE AcD.putV
  have hn : (syD ws gs).n = ws.length := rfl
  rw [hn]
  by_cases t : 0 ≤ v ∧ v < (ws.length : Int)
  · rw [if_pos t, if_pos t]
    obtain ⟨i, rfl⟩ := Int.eq_ofNat_of_zero_le t.1
    exact refPut_yes ok hI hR (by omega) e m
  · rw [if_neg t, if_neg t]
    exact Calls.mono (refPut_no ok hI hR v e m h0 h1 t) fun _ _ x => ⟨x.1, hR.below x.2, kept_of_below x.2⟩
/-- Put, of any number. -/
theorem refPut_gen {w : World} {B q r : Nat} {ws gs : List Int} {A : AcD} {bh ch bu cu : Nat} (ok : NewOk ws gs) (hI : IsDs w r ws gs) (hR : Ra w B q r ws.length A bh ch bu cu) (_ : B ≤ w.heap.size) (v e m : Int) (h0 : -128 ≤ v) (h1 : v ≤ 127) : Calls Try.prog 21 #[.pointer (some ⟨q, 0, none⟩), .int .i8 v, zx e m] w fun x w' => x = .returned (.int .i64 (putE (syD ws gs) v)) ∧ Ra w' B q r ws.length (A.putV (syD ws gs) v e m) bh ch bu cu ∧ Kept w w' (fun k => B ≤ k) :=
  Calls.mono (refPut_fine ok hI hR v e m h0 h1) fun _ _ x => ⟨x.1, x.2.1, x.2.2.mono fun k _ e => by
    have h1 := hR.Bh
    have h2 := hR.Bu
    rcases e with rfl | rfl <;> assumption⟩

end Go.Proofs.Ytlnoighjdmjdeaa
