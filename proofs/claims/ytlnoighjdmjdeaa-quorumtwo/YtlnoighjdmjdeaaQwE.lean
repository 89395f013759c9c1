/- What the document's Acks' From answers. -/
import Derived.Test.YtlnoighjdmjdeaaQwD
namespace Go.Proofs.Ytlnoighjdmjdeaa
open Go.RowKit Go.Shelf
set_option maxRecDepth 8000

theorem AcD.frN_less (A : AcD) (e m : Int) (k : Nat) : A.frN e m k < 2 ^ k := Nat.lt_pow_two_of_testBit _ fun i hi => by
  rw [A.frN_bit]
  simp; omega
theorem AcD.frN_add (A : AcD) (e m : Int) {k : Nat} (h : A.rea k e m = true) : A.frN e m (k + 1) = A.frN e m k + 2 ^ k := by
  show (if A.rea k e m then _ else _) = _
  rw [if_pos h, Nat.or_comm]
  have := Nat.two_pow_add_eq_or_of_lt (A.frN_less e m k) 1
  rw [Nat.mul_one] at this
  rw [← this, Nat.add_comm]
theorem bq_two {k : Nat} (hk : k < 7) : bq k * 2 = bq (k + 1) ∧ 0 ≤ bq k ∧ bq k ≤ 64 := by
  have h : ∀ k : Fin 7, bq k * 2 = bq (k + 1) ∧ 0 ≤ bq k ∧ bq k ≤ 64 := by decide
  exact h ⟨k, hk⟩

theorem refFrom_any {w : World} {B q r n : Nat} {A : AcD} {bh ch bu cu : Nat} (n7 : n ≤ 7) (hR : Ra w B q r n A bh ch bu cu) (e m : Int) : Calls Try.prog 37 #[.pointer (some ⟨q, 0, none⟩), zx e m] w fun x w' => x = .returned (.int .u8 (A.frN e m n : Int)) ∧ Below w.heap.size w w' := by
  obtain ⟨W0, hW0⟩ : ∃ W0, W0 = w.alloc (.cells #[.int .u32 e, .int .u32 m] 38) := ⟨_, rfl⟩
  have hb0 : Below w.heap.size w W0 := by rw [hW0]; exact one_alloc w _
  have b0 : W0.cell? ⟨w.heap.size, 0, none⟩ = some (.int .u32 e) := by rw [hW0]; exact cell_of_row _ _ 0 _ _ _ (heap_alloc_new _ _)
  have b1 : W0.cell? ⟨w.heap.size, 1, none⟩ = some (.int .u32 m) := by rw [hW0]; exact cell_of_row _ _ 1 _ _ _ (heap_alloc_new _ _)
  have HBx : Hid (W0.cell? ⟨w.heap.size, 0, none⟩ = some (.int .u32 e) ∧ W0.cell? ⟨w.heap.size, 1, none⟩ = some (.int .u32 m)) := ⟨b0, b1⟩
  have HA : Hid (Ra W0 B q r n A bh ch bu cu) := hR.below hb0
  have HB0 : Hid (Below w.heap.size w W0) := hb0
  have HW0 : Hid (w.alloc (.cells #[.int .u32 e, .int .u32 m] 38) = W0) := hW0.symm
  have nh := hR.nh
  have nu := hR.nu
  clear hW0 hb0 hR b0 b1
  go_enter Try.func37, Try.ntmps37
  go_upto_region 1 with fail
  rw [HW0.out]
  clear HW0
  go_wp2
  go_loopw [5, 6, 7] (fun v5 v6 vi wr => ∃ k : Nat, k ≤ n ∧ v5 = .int .u8 (A.frN e m k : Int) ∧ v6 = .int .u8 (bq k) ∧ vi = .int .i64 (k : Int) ∧ Hid (Below W0.heap.size W0 wr)) (fun _ _ vi _ => n - (intOf vi).toNat)
  case atStart => exact ⟨0, by omega, rfl, rfl, rfl, Below.refl _ _⟩
  case round =>
    obtain ⟨k, hk, rfl, rfl, rfl, HW⟩ := hrel
    have HBw : Hid (Below w.heap.size w wr) := HB0.out.trans (HW.out.mono HB0.out.size)
    have hR := HA.out.below HW.out
    have HR : Hid (Ra wr B q r n A bh ch bu cu) := hR
    have c2 := hR.c2
    have c1 := hR.c1
    have hz := hR.lt.1
    by_cases hkN : k < n
    · have hk7 : k < 7 := by omega
      have hi0 : (0 : Int) ≤ (k : Int) := by omega
      have hiN : (k : Int) < (n : Int) := by omega
      have b0 := kcell HW.out HBx.out.1
      have b1 := kcell HW.out HBx.out.2
      have cb := hR.ch hkN
      have ce := hR.ce hkN
      have cm := hR.cm hkN
      obtain ⟨q1, q2, q3⟩ := bq_two hk7
      have HQ : Hid (bq k * 2 = bq (k + 1)) := q1
      have HF : Hid (A.rea k e m = false → A.frN e m (k + 1) = A.frN e m k) := fun h => by show (if A.rea k e m then _ else _) = _; rw [h]; rfl
      have HFy : Hid (A.rea k e m = true → ((A.frN e m (k + 1) : Nat) : Int) = (A.frN e m k : Int) + bq k) := fun h => by rw [A.frN_add e m h]; unfold bq; omega
      have HFz : Hid (((A.frN e m k : Nat) : Int) + bq k ≤ 255 ∧ 0 ≤ ((A.frN e m k : Nat) : Int)) := ⟨by
        have a1 := A.frN_less e m k
        have a2 : (2 ^ k : Nat) ≤ 64 := by have := q3; unfold bq at this; omega
        have := q3
        omega, by omega⟩
      have HRe : Hid (A.rea k e m = (A.so.testBit k && decide (0 ≤ zcmp (A.e k) (A.m k) e m))) := rfl
      obtain ⟨F, hF⟩ : ∃ F : Int, F = (A.frN e m k : Int) := ⟨_, rfl⟩
      have HFe : Hid (F = (A.frN e m k : Int)) := hF
      rw [← hF] at HFy HFz ⊢
      have hzW := HW.out.size
      clear hF q1 hR
      have HZ : Hid (W0.heap.size ≤ wr.heap.size) := hzW
      clear hzW
      generalize bq k = Q at *
      cases hb : A.so.testBit k with
      | false =>
        rw [hb] at cb HRe
        have g0 : wr.cell? ⟨q, 1, none⟩ = some (.slice (some ⟨bh, 0, none⟩) n ch) ∧ wr.cell? ⟨bh, k, none⟩ = some (.bool false) := ⟨c1, cb⟩
        have HX : Hid (Value.int .u8 F = .int .u8 (A.frN e m (k + 1) : Int)) := by show _ = _; rw [HF.out (by rw [HRe.out]; rfl), HFe.out]
        have HBX : Hid (Below W0.heap.size W0 wr.drew) := HW.out.drew
        clear hb HRe ce cm HFe HFy HF
        go_wp2_with fail
        refine wp_region_held_drew (S := (fun W => W.cell? ⟨q, 1, none⟩ = some (.slice (some ⟨bh, 0, none⟩) n ch) ∧ W.cell? ⟨bh, k, none⟩ = some (.bool false))) (by kernel_rfl) ?_ (fun hHeld => ?_)
        · exact g0
        refine wpAnyH_take (i := 0) (oi := { dst := some 17, op := Op.move (Operand.tmp 0), type := 43, pos := "ref.go:141", after := #[], guard := none }) (v := ?_) rfl (by kernel_rfl) (by kernel_rfl) (by kernel_rfl) (fun _ _ _ h => h) (Or.inl ⟨by rfl, ?_⟩) (by assumption) ?_
        rotate_left
        · (intro w hSw; (try dsimp only at hSw); go_simp) <;> with_reducible rfl
        try simp only [Act.put, List.setIfInBounds_toArray, List.set_cons_zero, List.set_cons_succ]
        refine wpAnyH_take (i := 1) (oi := { dst := some 18, op := Op.nilCheck (Operand.tmp 17), type := 0, pos := "ref.go:141", after := #[{ on := 0, ground := Ground.data }], guard := none }) (v := ?_) rfl (by kernel_rfl) (by kernel_rfl) (by kernel_rfl) (fun _ _ _ h => h) (Or.inl ⟨by rfl, ?_⟩) (by assumption) ?_
        rotate_left
        · (intro w hSw; (try dsimp only at hSw); go_simp) <;> with_reducible rfl
        try simp only [Act.put, List.setIfInBounds_toArray, List.set_cons_zero, List.set_cons_succ]
        refine wpAnyH_take (i := 2) (oi := { dst := some 19, op := Op.fieldAddr 75 (Operand.tmp 18) 1, type := 0, pos := "ref.go:141", after := #[{ on := 1, ground := Ground.data }], guard := none }) (v := ?_) rfl (by kernel_rfl) (by kernel_rfl) (by kernel_rfl) (fun _ _ _ h => h) (Or.inl ⟨by rfl, ?_⟩) (by assumption) ?_
        rotate_left
        · (intro w hSw; (try dsimp only at hSw); go_simp) <;> with_reducible rfl
        try simp only [Act.put, List.setIfInBounds_toArray, List.set_cons_zero, List.set_cons_succ]
        refine wpAnyH_take (i := 3) (oi := { dst := some 20, op := Op.load 72 (Operand.tmp 19), type := 72, pos := "ref.go:141", after := #[{ on := 2, ground := Ground.data }], guard := none }) (v := ?_) rfl (by kernel_rfl) (by kernel_rfl) (by kernel_rfl) (fun _ _ _ h => h) (Or.inl ⟨by rfl, ?_⟩) (by assumption) ?_
        rotate_left
        · (intro w hSw; (try dsimp only at hSw); go_simp) <;> with_reducible rfl
        try simp only [Act.put, List.setIfInBounds_toArray, List.set_cons_zero, List.set_cons_succ]
        refine wpAnyH_take (i := 4) (oi := { dst := some 21, op := Op.move (Operand.tmp 7), type := 3, pos := "ref.go:141", after := #[], guard := none }) (v := ?_) rfl (by kernel_rfl) (by kernel_rfl) (by kernel_rfl) (fun _ _ _ h => h) (Or.inl ⟨by rfl, ?_⟩) (by assumption) ?_
        rotate_left
        · (intro w hSw; (try dsimp only at hSw); go_simp) <;> with_reducible rfl
        try simp only [Act.put, List.setIfInBounds_toArray, List.set_cons_zero, List.set_cons_succ]
        refine wpAnyH_take (i := 5) (oi := { dst := some 22, op := Op.indexAddr 72 (Operand.tmp 20) (Operand.tmp 21), type := 0, pos := "ref.go:141", after := #[{ on := 3, ground := Ground.data }, { on := 4, ground := Ground.data }], guard := none }) (v := ?_) rfl (by kernel_rfl) (by kernel_rfl) (by kernel_rfl) (fun _ _ _ h => h) (Or.inl ⟨by rfl, ?_⟩) (by assumption) ?_
        rotate_left
        · (intro w hSw; (try dsimp only at hSw); go_simp) <;> with_reducible rfl
        try simp only [Act.put, List.setIfInBounds_toArray, List.set_cons_zero, List.set_cons_succ]
        refine wpAnyH_take (i := 6) (oi := { dst := some 23, op := Op.load 4 (Operand.tmp 22), type := 4, pos := "ref.go:141", after := #[{ on := 5, ground := Ground.data }], guard := none }) (v := ?_) rfl (by kernel_rfl) (by kernel_rfl) (by kernel_rfl) (fun _ _ _ h => h) (Or.inl ⟨by rfl, ?_⟩) (by assumption) ?_
        rotate_left
        · (intro w hSw; (try dsimp only at hSw); go_simp) <;> with_reducible rfl
        try simp only [Act.put, List.setIfInBounds_toArray, List.set_cons_zero, List.set_cons_succ]
        refine wpAnyH_take (i := 7) (oi := { dst := some 24, op := Op.move (Operand.tmp 23), type := 4, pos := "ref.go:141", after := #[{ on := 6, ground := Ground.data }], guard := none }) (v := ?_) rfl (by kernel_rfl) (by kernel_rfl) (by kernel_rfl) (fun _ _ _ h => h) (Or.inl ⟨by rfl, ?_⟩) (by assumption) ?_
        rotate_left
        · (intro w hSw; (try dsimp only at hSw); go_simp) <;> with_reducible rfl
        try simp only [Act.put, List.setIfInBounds_toArray, List.set_cons_zero, List.set_cons_succ]
        refine wpAnyH_take (i := 8) (oi := { dst := some 25, op := Op.move (Operand.tmp 0), type := 43, pos := "ref.go:141", after := #[{ on := 7, ground := Ground.guard }], guard := some (7, true) }) (v := undef) rfl (by kernel_rfl) (by kernel_rfl) (by kernel_rfl) (fun _ _ _ h => h) (Or.inr ⟨by rfl, rfl⟩) (by assumption) ?_
        try simp only [Act.put, List.setIfInBounds_toArray, List.set_cons_zero, List.set_cons_succ]
        refine wpAnyH_take (i := 9) (oi := { dst := some 26, op := Op.nilCheck (Operand.tmp 25), type := 0, pos := "ref.go:141", after := #[{ on := 8, ground := Ground.data }, { on := 7, ground := Ground.guard }], guard := some (7, true) }) (v := undef) rfl (by kernel_rfl) (by kernel_rfl) (by kernel_rfl) (fun _ _ _ h => h) (Or.inr ⟨by rfl, rfl⟩) (by assumption) ?_
        try simp only [Act.put, List.setIfInBounds_toArray, List.set_cons_zero, List.set_cons_succ]
        refine wpAnyH_take (i := 10) (oi := { dst := some 27, op := Op.fieldAddr 75 (Operand.tmp 26) 2, type := 0, pos := "ref.go:141", after := #[{ on := 9, ground := Ground.data }, { on := 7, ground := Ground.guard }], guard := some (7, true) }) (v := undef) rfl (by kernel_rfl) (by kernel_rfl) (by kernel_rfl) (fun _ _ _ h => h) (Or.inr ⟨by rfl, rfl⟩) (by assumption) ?_
        try simp only [Act.put, List.setIfInBounds_toArray, List.set_cons_zero, List.set_cons_succ]
        refine wpAnyH_take (i := 11) (oi := { dst := some 28, op := Op.load 73 (Operand.tmp 27), type := 73, pos := "ref.go:141", after := #[{ on := 10, ground := Ground.data }, { on := 7, ground := Ground.guard }], guard := some (7, true) }) (v := undef) rfl (by kernel_rfl) (by kernel_rfl) (by kernel_rfl) (fun _ _ _ h => h) (Or.inr ⟨by rfl, rfl⟩) (by assumption) ?_
        try simp only [Act.put, List.setIfInBounds_toArray, List.set_cons_zero, List.set_cons_succ]
        refine wpAnyH_take (i := 12) (oi := { dst := some 29, op := Op.move (Operand.tmp 7), type := 3, pos := "ref.go:141", after := #[{ on := 7, ground := Ground.guard }], guard := some (7, true) }) (v := undef) rfl (by kernel_rfl) (by kernel_rfl) (by kernel_rfl) (fun _ _ _ h => h) (Or.inr ⟨by rfl, rfl⟩) (by assumption) ?_
        try simp only [Act.put, List.setIfInBounds_toArray, List.set_cons_zero, List.set_cons_succ]
        refine wpAnyH_take (i := 13) (oi := { dst := some 30, op := Op.indexAddr 73 (Operand.tmp 28) (Operand.tmp 29), type := 0, pos := "ref.go:141", after := #[{ on := 11, ground := Ground.data }, { on := 12, ground := Ground.data }, { on := 7, ground := Ground.guard }], guard := some (7, true) }) (v := undef) rfl (by kernel_rfl) (by kernel_rfl) (by kernel_rfl) (fun _ _ _ h => h) (Or.inr ⟨by rfl, rfl⟩) (by assumption) ?_
        try simp only [Act.put, List.setIfInBounds_toArray, List.set_cons_zero, List.set_cons_succ]
        refine wpAnyH_take (i := 14) (oi := { dst := some 31, op := Op.load 38 (Operand.tmp 30), type := 38, pos := "ref.go:141", after := #[{ on := 13, ground := Ground.data }, { on := 7, ground := Ground.guard }], guard := some (7, true) }) (v := undef) rfl (by kernel_rfl) (by kernel_rfl) (by kernel_rfl) (fun _ _ _ h => h) (Or.inr ⟨by rfl, rfl⟩) (by assumption) ?_
        try simp only [Act.put, List.setIfInBounds_toArray, List.set_cons_zero, List.set_cons_succ]
        refine wpAnyH_take (i := 15) (oi := { dst := some 32, op := Op.load 38 (Operand.tmp 3), type := 38, pos := "ref.go:141", after := #[{ on := 7, ground := Ground.guard }], guard := some (7, true) }) (v := undef) rfl (by kernel_rfl) (by kernel_rfl) (by kernel_rfl) (fun _ _ _ h => h) (Or.inr ⟨by rfl, rfl⟩) (by assumption) ?_
        try simp only [Act.put, List.setIfInBounds_toArray, List.set_cons_zero, List.set_cons_succ]
        refine wpAnyH_ready (rs := [16]) (by kernel_rfl) (by simp) ?_
        refine AllReadyH.cons (o := { dst := some 33, op := Op.call { callee := Callee.value (Operand.func 29), args := #[Operand.tmp 31, Operand.tmp 32], argTypes := #[38, 38] }, type := 3, pos := "ref.go:141", after := #[{ on := 14, ground := Ground.data }, { on := 15, ground := Ground.data }, { on := 7, ground := Ground.chain }, { on := 7, ground := Ground.guard }], guard := some (7, true) }) rfl (fun K hK => ?_) AllReadyH.nil
        go_simp
        refine hK.out _ _ (by assumption) (fun _ => ?_)
        clear hK K
        refine wpAnyH_take (i := 17) (oi := { dst := some 34, op := Op.binOp BinOp.geq 3 (Operand.tmp 33) (Operand.const (Value.int IntKind.i64 0)) 3, type := 4, pos := "ref.go:141", after := #[{ on := 16, ground := Ground.data }, { on := 7, ground := Ground.guard }], guard := some (7, true) }) (v := undef) rfl (by kernel_rfl) (by kernel_rfl) (by kernel_rfl) (fun _ _ _ h => h) (Or.inr ⟨by rfl, rfl⟩) (by assumption) ?_
        try simp only [Act.put, List.setIfInBounds_toArray, List.set_cons_zero, List.set_cons_succ]
        refine wpAnyH_take (i := 18) (oi := { dst := some 35, op := Op.pick (Operand.tmp 24) (Operand.tmp 34) (Operand.const (Value.bool false)), type := 4, pos := "ref.go:141", after := #[{ on := 7, ground := Ground.data }, { on := 17, ground := Ground.data }], guard := none }) (v := ?_) rfl (by kernel_rfl) (by kernel_rfl) (by kernel_rfl) (fun _ _ _ h => h) (Or.inl ⟨by rfl, ?_⟩) (by assumption) ?_
        rotate_left
        · (intro w hSw; (try dsimp only at hSw); go_simp) <;> with_reducible rfl
        try simp only [Act.put, List.setIfInBounds_toArray, List.set_cons_zero, List.set_cons_succ]
        refine wpAnyH_done (by kernel_rfl) ?_ _
        clear hHeld
        go_wp2
        go_roundw
        case rel => exact ⟨k + 1, by omega, HX.out, by rw [HQ.out], by simp, HBX⟩
        case measure => simp [intOf]; omega
      | true =>
        rw [hb] at cb HRe
        have g0 : wr.cell? ⟨q, 1, none⟩ = some (.slice (some ⟨bh, 0, none⟩) n ch) ∧ wr.cell? ⟨bh, k, none⟩ = some (.bool true) ∧ wr.cell? ⟨q, 2, none⟩ = some (.slice (some ⟨bu, 0, none⟩) n cu) ∧ wr.cell? ⟨bu, k * 2, none⟩ = some (.int .u32 (A.e k)) ∧ wr.cell? ⟨bu, k * 2 + 1, none⟩ = some (.int .u32 (A.m k)) ∧ wr.cell? ⟨w.heap.size, 0, none⟩ = some (.int .u32 e) ∧ wr.cell? ⟨w.heap.size, 1, none⟩ = some (.int .u32 m) := ⟨c1, cb, c2, ce, cm, b0, b1⟩
        rw [Bool.true_and] at HRe
        clear hb
        generalize hzc : zcmp (A.e k) (A.m k) e m = zc at *
        have HZc : Hid (zcmp (A.e k) (A.m k) e m = zc) := hzc
        clear hzc
        by_cases hc : 0 ≤ zc
        · have HX : Hid (Value.int .u8 (F + Q) = .int .u8 (A.frN e m (k + 1) : Int)) := by show _ = _; rw [HFy.out (by rw [HRe.out, decide_eq_true hc])]
          have hb5 := HFz.out.1
          have hb6 := HFz.out.2
          clear HRe HFe HFy HF HFz
          go_wp2_with fail
          refine wp_region_held_drew (S := (fun W => W.cell? ⟨q, 1, none⟩ = some (.slice (some ⟨bh, 0, none⟩) n ch) ∧ W.cell? ⟨bh, k, none⟩ = some (.bool true) ∧ W.cell? ⟨q, 2, none⟩ = some (.slice (some ⟨bu, 0, none⟩) n cu) ∧ W.cell? ⟨bu, k * 2, none⟩ = some (.int .u32 (A.e k)) ∧ W.cell? ⟨bu, k * 2 + 1, none⟩ = some (.int .u32 (A.m k)) ∧ W.cell? ⟨w.heap.size, 0, none⟩ = some (.int .u32 e) ∧ W.cell? ⟨w.heap.size, 1, none⟩ = some (.int .u32 m))) (by kernel_rfl) ?_ (fun hHeld => ?_)
          · exact g0
          refine wpAnyH_take (i := 0) (oi := { dst := some 17, op := Op.move (Operand.tmp 0), type := 43, pos := "ref.go:141", after := #[], guard := none }) (v := ?_) rfl (by kernel_rfl) (by kernel_rfl) (by kernel_rfl) (fun _ _ _ h => h) (Or.inl ⟨by rfl, ?_⟩) (by assumption) ?_
          rotate_left
          · (intro w hSw; (try dsimp only at hSw); go_simp) <;> with_reducible rfl
          try simp only [Act.put, List.setIfInBounds_toArray, List.set_cons_zero, List.set_cons_succ]
          refine wpAnyH_take (i := 1) (oi := { dst := some 18, op := Op.nilCheck (Operand.tmp 17), type := 0, pos := "ref.go:141", after := #[{ on := 0, ground := Ground.data }], guard := none }) (v := ?_) rfl (by kernel_rfl) (by kernel_rfl) (by kernel_rfl) (fun _ _ _ h => h) (Or.inl ⟨by rfl, ?_⟩) (by assumption) ?_
          rotate_left
          · (intro w hSw; (try dsimp only at hSw); go_simp) <;> with_reducible rfl
          try simp only [Act.put, List.setIfInBounds_toArray, List.set_cons_zero, List.set_cons_succ]
          refine wpAnyH_take (i := 2) (oi := { dst := some 19, op := Op.fieldAddr 75 (Operand.tmp 18) 1, type := 0, pos := "ref.go:141", after := #[{ on := 1, ground := Ground.data }], guard := none }) (v := ?_) rfl (by kernel_rfl) (by kernel_rfl) (by kernel_rfl) (fun _ _ _ h => h) (Or.inl ⟨by rfl, ?_⟩) (by assumption) ?_
          rotate_left
          · (intro w hSw; (try dsimp only at hSw); go_simp) <;> with_reducible rfl
          try simp only [Act.put, List.setIfInBounds_toArray, List.set_cons_zero, List.set_cons_succ]
          refine wpAnyH_take (i := 3) (oi := { dst := some 20, op := Op.load 72 (Operand.tmp 19), type := 72, pos := "ref.go:141", after := #[{ on := 2, ground := Ground.data }], guard := none }) (v := ?_) rfl (by kernel_rfl) (by kernel_rfl) (by kernel_rfl) (fun _ _ _ h => h) (Or.inl ⟨by rfl, ?_⟩) (by assumption) ?_
          rotate_left
          · (intro w hSw; (try dsimp only at hSw); go_simp) <;> with_reducible rfl
          try simp only [Act.put, List.setIfInBounds_toArray, List.set_cons_zero, List.set_cons_succ]
          refine wpAnyH_take (i := 4) (oi := { dst := some 21, op := Op.move (Operand.tmp 7), type := 3, pos := "ref.go:141", after := #[], guard := none }) (v := ?_) rfl (by kernel_rfl) (by kernel_rfl) (by kernel_rfl) (fun _ _ _ h => h) (Or.inl ⟨by rfl, ?_⟩) (by assumption) ?_
          rotate_left
          · (intro w hSw; (try dsimp only at hSw); go_simp) <;> with_reducible rfl
          try simp only [Act.put, List.setIfInBounds_toArray, List.set_cons_zero, List.set_cons_succ]
          refine wpAnyH_take (i := 5) (oi := { dst := some 22, op := Op.indexAddr 72 (Operand.tmp 20) (Operand.tmp 21), type := 0, pos := "ref.go:141", after := #[{ on := 3, ground := Ground.data }, { on := 4, ground := Ground.data }], guard := none }) (v := ?_) rfl (by kernel_rfl) (by kernel_rfl) (by kernel_rfl) (fun _ _ _ h => h) (Or.inl ⟨by rfl, ?_⟩) (by assumption) ?_
          rotate_left
          · (intro w hSw; (try dsimp only at hSw); go_simp) <;> with_reducible rfl
          try simp only [Act.put, List.setIfInBounds_toArray, List.set_cons_zero, List.set_cons_succ]
          refine wpAnyH_take (i := 6) (oi := { dst := some 23, op := Op.load 4 (Operand.tmp 22), type := 4, pos := "ref.go:141", after := #[{ on := 5, ground := Ground.data }], guard := none }) (v := ?_) rfl (by kernel_rfl) (by kernel_rfl) (by kernel_rfl) (fun _ _ _ h => h) (Or.inl ⟨by rfl, ?_⟩) (by assumption) ?_
          rotate_left
          · (intro w hSw; (try dsimp only at hSw); go_simp) <;> with_reducible rfl
          try simp only [Act.put, List.setIfInBounds_toArray, List.set_cons_zero, List.set_cons_succ]
          refine wpAnyH_take (i := 7) (oi := { dst := some 24, op := Op.move (Operand.tmp 23), type := 4, pos := "ref.go:141", after := #[{ on := 6, ground := Ground.data }], guard := none }) (v := ?_) rfl (by kernel_rfl) (by kernel_rfl) (by kernel_rfl) (fun _ _ _ h => h) (Or.inl ⟨by rfl, ?_⟩) (by assumption) ?_
          rotate_left
          · (intro w hSw; (try dsimp only at hSw); go_simp) <;> with_reducible rfl
          try simp only [Act.put, List.setIfInBounds_toArray, List.set_cons_zero, List.set_cons_succ]
          refine wpAnyH_take (i := 8) (oi := { dst := some 25, op := Op.move (Operand.tmp 0), type := 43, pos := "ref.go:141", after := #[{ on := 7, ground := Ground.guard }], guard := some (7, true) }) (v := ?_) rfl (by kernel_rfl) (by kernel_rfl) (by kernel_rfl) (fun _ _ _ h => h) (Or.inl ⟨by rfl, ?_⟩) (by assumption) ?_
          rotate_left
          · (intro w hSw; (try dsimp only at hSw); go_simp) <;> with_reducible rfl
          try simp only [Act.put, List.setIfInBounds_toArray, List.set_cons_zero, List.set_cons_succ]
          refine wpAnyH_take (i := 9) (oi := { dst := some 26, op := Op.nilCheck (Operand.tmp 25), type := 0, pos := "ref.go:141", after := #[{ on := 8, ground := Ground.data }, { on := 7, ground := Ground.guard }], guard := some (7, true) }) (v := ?_) rfl (by kernel_rfl) (by kernel_rfl) (by kernel_rfl) (fun _ _ _ h => h) (Or.inl ⟨by rfl, ?_⟩) (by assumption) ?_
          rotate_left
          · (intro w hSw; (try dsimp only at hSw); go_simp) <;> with_reducible rfl
          try simp only [Act.put, List.setIfInBounds_toArray, List.set_cons_zero, List.set_cons_succ]
          refine wpAnyH_take (i := 10) (oi := { dst := some 27, op := Op.fieldAddr 75 (Operand.tmp 26) 2, type := 0, pos := "ref.go:141", after := #[{ on := 9, ground := Ground.data }, { on := 7, ground := Ground.guard }], guard := some (7, true) }) (v := ?_) rfl (by kernel_rfl) (by kernel_rfl) (by kernel_rfl) (fun _ _ _ h => h) (Or.inl ⟨by rfl, ?_⟩) (by assumption) ?_
          rotate_left
          · (intro w hSw; (try dsimp only at hSw); go_simp) <;> with_reducible rfl
          try simp only [Act.put, List.setIfInBounds_toArray, List.set_cons_zero, List.set_cons_succ]
          refine wpAnyH_take (i := 11) (oi := { dst := some 28, op := Op.load 73 (Operand.tmp 27), type := 73, pos := "ref.go:141", after := #[{ on := 10, ground := Ground.data }, { on := 7, ground := Ground.guard }], guard := some (7, true) }) (v := ?_) rfl (by kernel_rfl) (by kernel_rfl) (by kernel_rfl) (fun _ _ _ h => h) (Or.inl ⟨by rfl, ?_⟩) (by assumption) ?_
          rotate_left
          · (intro w hSw; (try dsimp only at hSw); go_simp) <;> with_reducible rfl
          try simp only [Act.put, List.setIfInBounds_toArray, List.set_cons_zero, List.set_cons_succ]
          refine wpAnyH_take (i := 12) (oi := { dst := some 29, op := Op.move (Operand.tmp 7), type := 3, pos := "ref.go:141", after := #[{ on := 7, ground := Ground.guard }], guard := some (7, true) }) (v := ?_) rfl (by kernel_rfl) (by kernel_rfl) (by kernel_rfl) (fun _ _ _ h => h) (Or.inl ⟨by rfl, ?_⟩) (by assumption) ?_
          rotate_left
          · (intro w hSw; (try dsimp only at hSw); go_simp) <;> with_reducible rfl
          try simp only [Act.put, List.setIfInBounds_toArray, List.set_cons_zero, List.set_cons_succ]
          refine wpAnyH_take (i := 13) (oi := { dst := some 30, op := Op.indexAddr 73 (Operand.tmp 28) (Operand.tmp 29), type := 0, pos := "ref.go:141", after := #[{ on := 11, ground := Ground.data }, { on := 12, ground := Ground.data }, { on := 7, ground := Ground.guard }], guard := some (7, true) }) (v := ?_) rfl (by kernel_rfl) (by kernel_rfl) (by kernel_rfl) (fun _ _ _ h => h) (Or.inl ⟨by rfl, ?_⟩) (by assumption) ?_
          rotate_left
          · (intro w hSw; (try dsimp only at hSw); go_simp) <;> with_reducible rfl
          try simp only [Act.put, List.setIfInBounds_toArray, List.set_cons_zero, List.set_cons_succ]
          refine wpAnyH_take (i := 14) (oi := { dst := some 31, op := Op.load 38 (Operand.tmp 30), type := 38, pos := "ref.go:141", after := #[{ on := 13, ground := Ground.data }, { on := 7, ground := Ground.guard }], guard := some (7, true) }) (v := ?_) rfl (by kernel_rfl) (by kernel_rfl) (by kernel_rfl) (fun _ _ _ h => h) (Or.inl ⟨by rfl, ?_⟩) (by assumption) ?_
          rotate_left
          · (intro w hSw; (try dsimp only at hSw); go_simp) <;> with_reducible rfl
          try simp only [Act.put, List.setIfInBounds_toArray, List.set_cons_zero, List.set_cons_succ]
          refine wpAnyH_take (i := 15) (oi := { dst := some 32, op := Op.load 38 (Operand.tmp 3), type := 38, pos := "ref.go:141", after := #[{ on := 7, ground := Ground.guard }], guard := some (7, true) }) (v := ?_) rfl (by kernel_rfl) (by kernel_rfl) (by kernel_rfl) (fun _ _ _ h => h) (Or.inl ⟨by rfl, ?_⟩) (by assumption) ?_
          rotate_left
          · (intro w hSw; (try dsimp only at hSw); go_simp) <;> with_reducible rfl
          try simp only [Act.put, List.setIfInBounds_toArray, List.set_cons_zero, List.set_cons_succ]
          refine wpAnyH_ready (rs := [16]) (by kernel_rfl) (by simp) ?_
          refine AllReadyH.cons (o := { dst := some 33, op := Op.call { callee := Callee.value (Operand.func 29), args := #[Operand.tmp 31, Operand.tmp 32], argTypes := #[38, 38] }, type := 3, pos := "ref.go:141", after := #[{ on := 14, ground := Ground.data }, { on := 15, ground := Ground.data }, { on := 7, ground := Ground.chain }, { on := 7, ground := Ground.guard }], guard := some (7, true) }) rfl (fun K hK => ?_) AllReadyH.nil
          go_simp
          refine (refCompare_any _ _ _ _ _).mono ?_
          rintro e2 w2 ⟨rfl, hb2⟩
          rw [HZc.out]
          have g2 : w2.cell? ⟨q, 1, none⟩ = some (.slice (some ⟨bh, 0, none⟩) n ch) ∧ w2.cell? ⟨bh, k, none⟩ = some (.bool true) ∧ w2.cell? ⟨q, 2, none⟩ = some (.slice (some ⟨bu, 0, none⟩) n cu) ∧ w2.cell? ⟨bu, k * 2, none⟩ = some (.int .u32 (A.e k)) ∧ w2.cell? ⟨bu, k * 2 + 1, none⟩ = some (.int .u32 (A.m k)) ∧ w2.cell? ⟨w.heap.size, 0, none⟩ = some (.int .u32 e) ∧ w2.cell? ⟨w.heap.size, 1, none⟩ = some (.int .u32 m) := ⟨kcell hb2 g0.1, kcell hb2 g0.2.1, kcell hb2 g0.2.2.1, kcell hb2 g0.2.2.2.1, kcell hb2 g0.2.2.2.2.1, kcell hb2 g0.2.2.2.2.2.1, kcell hb2 g0.2.2.2.2.2.2⟩
          have HBX : Hid (Below W0.heap.size W0 w2) := HW.out.drew.trans (hb2.mono HZ.out)
          clear hb2
          refine hK.out _ _ g2 (fun hHeld => ?_)
          clear hK K
          refine wpAnyH_take (i := 17) (oi := { dst := some 34, op := Op.binOp BinOp.geq 3 (Operand.tmp 33) (Operand.const (Value.int IntKind.i64 0)) 3, type := 4, pos := "ref.go:141", after := #[{ on := 16, ground := Ground.data }, { on := 7, ground := Ground.guard }], guard := some (7, true) }) (v := ?_) rfl (by kernel_rfl) (by kernel_rfl) (by kernel_rfl) (fun _ _ _ h => h) (Or.inl ⟨by rfl, ?_⟩) (by assumption) ?_
          rotate_left
          · (intro w hSw; (try dsimp only at hSw); go_simp) <;> with_reducible rfl
          try simp only [Act.put, List.setIfInBounds_toArray, List.set_cons_zero, List.set_cons_succ]
          refine wpAnyH_take (i := 18) (oi := { dst := some 35, op := Op.pick (Operand.tmp 24) (Operand.tmp 34) (Operand.const (Value.bool false)), type := 4, pos := "ref.go:141", after := #[{ on := 7, ground := Ground.data }, { on := 17, ground := Ground.data }], guard := none }) (v := ?_) rfl (by kernel_rfl) (by kernel_rfl) (by kernel_rfl) (fun _ _ _ h => h) (Or.inl ⟨by rfl, ?_⟩) (by assumption) ?_
          rotate_left
          · (intro w hSw; (try dsimp only at hSw); go_simp) <;> with_reducible rfl
          try simp only [Act.put, List.setIfInBounds_toArray, List.set_cons_zero, List.set_cons_succ]
          refine wpAnyH_done (by kernel_rfl) ?_ _
          clear hHeld
          go_wp2
          go_roundw
          case rel => exact ⟨k + 1, by omega, HX.out, by rw [HQ.out], by simp, HBX⟩
          case measure => simp [intOf]; omega
        · have HX : Hid (Value.int .u8 F = .int .u8 (A.frN e m (k + 1) : Int)) := by show _ = _; rw [HF.out (by rw [HRe.out, decide_eq_false hc]), HFe.out]
          clear HRe HFe HFy HF HFz
          go_wp2_with fail
          refine wp_region_held_drew (S := (fun W => W.cell? ⟨q, 1, none⟩ = some (.slice (some ⟨bh, 0, none⟩) n ch) ∧ W.cell? ⟨bh, k, none⟩ = some (.bool true) ∧ W.cell? ⟨q, 2, none⟩ = some (.slice (some ⟨bu, 0, none⟩) n cu) ∧ W.cell? ⟨bu, k * 2, none⟩ = some (.int .u32 (A.e k)) ∧ W.cell? ⟨bu, k * 2 + 1, none⟩ = some (.int .u32 (A.m k)) ∧ W.cell? ⟨w.heap.size, 0, none⟩ = some (.int .u32 e) ∧ W.cell? ⟨w.heap.size, 1, none⟩ = some (.int .u32 m))) (by kernel_rfl) ?_ (fun hHeld => ?_)
          · exact g0
          refine wpAnyH_take (i := 0) (oi := { dst := some 17, op := Op.move (Operand.tmp 0), type := 43, pos := "ref.go:141", after := #[], guard := none }) (v := ?_) rfl (by kernel_rfl) (by kernel_rfl) (by kernel_rfl) (fun _ _ _ h => h) (Or.inl ⟨by rfl, ?_⟩) (by assumption) ?_
          rotate_left
          · (intro w hSw; (try dsimp only at hSw); go_simp) <;> with_reducible rfl
          try simp only [Act.put, List.setIfInBounds_toArray, List.set_cons_zero, List.set_cons_succ]
          refine wpAnyH_take (i := 1) (oi := { dst := some 18, op := Op.nilCheck (Operand.tmp 17), type := 0, pos := "ref.go:141", after := #[{ on := 0, ground := Ground.data }], guard := none }) (v := ?_) rfl (by kernel_rfl) (by kernel_rfl) (by kernel_rfl) (fun _ _ _ h => h) (Or.inl ⟨by rfl, ?_⟩) (by assumption) ?_
          rotate_left
          · (intro w hSw; (try dsimp only at hSw); go_simp) <;> with_reducible rfl
          try simp only [Act.put, List.setIfInBounds_toArray, List.set_cons_zero, List.set_cons_succ]
          refine wpAnyH_take (i := 2) (oi := { dst := some 19, op := Op.fieldAddr 75 (Operand.tmp 18) 1, type := 0, pos := "ref.go:141", after := #[{ on := 1, ground := Ground.data }], guard := none }) (v := ?_) rfl (by kernel_rfl) (by kernel_rfl) (by kernel_rfl) (fun _ _ _ h => h) (Or.inl ⟨by rfl, ?_⟩) (by assumption) ?_
          rotate_left
          · (intro w hSw; (try dsimp only at hSw); go_simp) <;> with_reducible rfl
          try simp only [Act.put, List.setIfInBounds_toArray, List.set_cons_zero, List.set_cons_succ]
          refine wpAnyH_take (i := 3) (oi := { dst := some 20, op := Op.load 72 (Operand.tmp 19), type := 72, pos := "ref.go:141", after := #[{ on := 2, ground := Ground.data }], guard := none }) (v := ?_) rfl (by kernel_rfl) (by kernel_rfl) (by kernel_rfl) (fun _ _ _ h => h) (Or.inl ⟨by rfl, ?_⟩) (by assumption) ?_
          rotate_left
          · (intro w hSw; (try dsimp only at hSw); go_simp) <;> with_reducible rfl
          try simp only [Act.put, List.setIfInBounds_toArray, List.set_cons_zero, List.set_cons_succ]
          refine wpAnyH_take (i := 4) (oi := { dst := some 21, op := Op.move (Operand.tmp 7), type := 3, pos := "ref.go:141", after := #[], guard := none }) (v := ?_) rfl (by kernel_rfl) (by kernel_rfl) (by kernel_rfl) (fun _ _ _ h => h) (Or.inl ⟨by rfl, ?_⟩) (by assumption) ?_
          rotate_left
          · (intro w hSw; (try dsimp only at hSw); go_simp) <;> with_reducible rfl
          try simp only [Act.put, List.setIfInBounds_toArray, List.set_cons_zero, List.set_cons_succ]
          refine wpAnyH_take (i := 5) (oi := { dst := some 22, op := Op.indexAddr 72 (Operand.tmp 20) (Operand.tmp 21), type := 0, pos := "ref.go:141", after := #[{ on := 3, ground := Ground.data }, { on := 4, ground := Ground.data }], guard := none }) (v := ?_) rfl (by kernel_rfl) (by kernel_rfl) (by kernel_rfl) (fun _ _ _ h => h) (Or.inl ⟨by rfl, ?_⟩) (by assumption) ?_
          rotate_left
          · (intro w hSw; (try dsimp only at hSw); go_simp) <;> with_reducible rfl
          try simp only [Act.put, List.setIfInBounds_toArray, List.set_cons_zero, List.set_cons_succ]
          refine wpAnyH_take (i := 6) (oi := { dst := some 23, op := Op.load 4 (Operand.tmp 22), type := 4, pos := "ref.go:141", after := #[{ on := 5, ground := Ground.data }], guard := none }) (v := ?_) rfl (by kernel_rfl) (by kernel_rfl) (by kernel_rfl) (fun _ _ _ h => h) (Or.inl ⟨by rfl, ?_⟩) (by assumption) ?_
          rotate_left
          · (intro w hSw; (try dsimp only at hSw); go_simp) <;> with_reducible rfl
          try simp only [Act.put, List.setIfInBounds_toArray, List.set_cons_zero, List.set_cons_succ]
          refine wpAnyH_take (i := 7) (oi := { dst := some 24, op := Op.move (Operand.tmp 23), type := 4, pos := "ref.go:141", after := #[{ on := 6, ground := Ground.data }], guard := none }) (v := ?_) rfl (by kernel_rfl) (by kernel_rfl) (by kernel_rfl) (fun _ _ _ h => h) (Or.inl ⟨by rfl, ?_⟩) (by assumption) ?_
          rotate_left
          · (intro w hSw; (try dsimp only at hSw); go_simp) <;> with_reducible rfl
          try simp only [Act.put, List.setIfInBounds_toArray, List.set_cons_zero, List.set_cons_succ]
          refine wpAnyH_take (i := 8) (oi := { dst := some 25, op := Op.move (Operand.tmp 0), type := 43, pos := "ref.go:141", after := #[{ on := 7, ground := Ground.guard }], guard := some (7, true) }) (v := ?_) rfl (by kernel_rfl) (by kernel_rfl) (by kernel_rfl) (fun _ _ _ h => h) (Or.inl ⟨by rfl, ?_⟩) (by assumption) ?_
          rotate_left
          · (intro w hSw; (try dsimp only at hSw); go_simp) <;> with_reducible rfl
          try simp only [Act.put, List.setIfInBounds_toArray, List.set_cons_zero, List.set_cons_succ]
          refine wpAnyH_take (i := 9) (oi := { dst := some 26, op := Op.nilCheck (Operand.tmp 25), type := 0, pos := "ref.go:141", after := #[{ on := 8, ground := Ground.data }, { on := 7, ground := Ground.guard }], guard := some (7, true) }) (v := ?_) rfl (by kernel_rfl) (by kernel_rfl) (by kernel_rfl) (fun _ _ _ h => h) (Or.inl ⟨by rfl, ?_⟩) (by assumption) ?_
          rotate_left
          · (intro w hSw; (try dsimp only at hSw); go_simp) <;> with_reducible rfl
          try simp only [Act.put, List.setIfInBounds_toArray, List.set_cons_zero, List.set_cons_succ]
          refine wpAnyH_take (i := 10) (oi := { dst := some 27, op := Op.fieldAddr 75 (Operand.tmp 26) 2, type := 0, pos := "ref.go:141", after := #[{ on := 9, ground := Ground.data }, { on := 7, ground := Ground.guard }], guard := some (7, true) }) (v := ?_) rfl (by kernel_rfl) (by kernel_rfl) (by kernel_rfl) (fun _ _ _ h => h) (Or.inl ⟨by rfl, ?_⟩) (by assumption) ?_
          rotate_left
          · (intro w hSw; (try dsimp only at hSw); go_simp) <;> with_reducible rfl
          try simp only [Act.put, List.setIfInBounds_toArray, List.set_cons_zero, List.set_cons_succ]
          refine wpAnyH_take (i := 11) (oi := { dst := some 28, op := Op.load 73 (Operand.tmp 27), type := 73, pos := "ref.go:141", after := #[{ on := 10, ground := Ground.data }, { on := 7, ground := Ground.guard }], guard := some (7, true) }) (v := ?_) rfl (by kernel_rfl) (by kernel_rfl) (by kernel_rfl) (fun _ _ _ h => h) (Or.inl ⟨by rfl, ?_⟩) (by assumption) ?_
          rotate_left
          · (intro w hSw; (try dsimp only at hSw); go_simp) <;> with_reducible rfl
          try simp only [Act.put, List.setIfInBounds_toArray, List.set_cons_zero, List.set_cons_succ]
          refine wpAnyH_take (i := 12) (oi := { dst := some 29, op := Op.move (Operand.tmp 7), type := 3, pos := "ref.go:141", after := #[{ on := 7, ground := Ground.guard }], guard := some (7, true) }) (v := ?_) rfl (by kernel_rfl) (by kernel_rfl) (by kernel_rfl) (fun _ _ _ h => h) (Or.inl ⟨by rfl, ?_⟩) (by assumption) ?_
          rotate_left
          · (intro w hSw; (try dsimp only at hSw); go_simp) <;> with_reducible rfl
          try simp only [Act.put, List.setIfInBounds_toArray, List.set_cons_zero, List.set_cons_succ]
          refine wpAnyH_take (i := 13) (oi := { dst := some 30, op := Op.indexAddr 73 (Operand.tmp 28) (Operand.tmp 29), type := 0, pos := "ref.go:141", after := #[{ on := 11, ground := Ground.data }, { on := 12, ground := Ground.data }, { on := 7, ground := Ground.guard }], guard := some (7, true) }) (v := ?_) rfl (by kernel_rfl) (by kernel_rfl) (by kernel_rfl) (fun _ _ _ h => h) (Or.inl ⟨by rfl, ?_⟩) (by assumption) ?_
          rotate_left
          · (intro w hSw; (try dsimp only at hSw); go_simp) <;> with_reducible rfl
          try simp only [Act.put, List.setIfInBounds_toArray, List.set_cons_zero, List.set_cons_succ]
          refine wpAnyH_take (i := 14) (oi := { dst := some 31, op := Op.load 38 (Operand.tmp 30), type := 38, pos := "ref.go:141", after := #[{ on := 13, ground := Ground.data }, { on := 7, ground := Ground.guard }], guard := some (7, true) }) (v := ?_) rfl (by kernel_rfl) (by kernel_rfl) (by kernel_rfl) (fun _ _ _ h => h) (Or.inl ⟨by rfl, ?_⟩) (by assumption) ?_
          rotate_left
          · (intro w hSw; (try dsimp only at hSw); go_simp) <;> with_reducible rfl
          try simp only [Act.put, List.setIfInBounds_toArray, List.set_cons_zero, List.set_cons_succ]
          refine wpAnyH_take (i := 15) (oi := { dst := some 32, op := Op.load 38 (Operand.tmp 3), type := 38, pos := "ref.go:141", after := #[{ on := 7, ground := Ground.guard }], guard := some (7, true) }) (v := ?_) rfl (by kernel_rfl) (by kernel_rfl) (by kernel_rfl) (fun _ _ _ h => h) (Or.inl ⟨by rfl, ?_⟩) (by assumption) ?_
          rotate_left
          · (intro w hSw; (try dsimp only at hSw); go_simp) <;> with_reducible rfl
          try simp only [Act.put, List.setIfInBounds_toArray, List.set_cons_zero, List.set_cons_succ]
          refine wpAnyH_ready (rs := [16]) (by kernel_rfl) (by simp) ?_
          refine AllReadyH.cons (o := { dst := some 33, op := Op.call { callee := Callee.value (Operand.func 29), args := #[Operand.tmp 31, Operand.tmp 32], argTypes := #[38, 38] }, type := 3, pos := "ref.go:141", after := #[{ on := 14, ground := Ground.data }, { on := 15, ground := Ground.data }, { on := 7, ground := Ground.chain }, { on := 7, ground := Ground.guard }], guard := some (7, true) }) rfl (fun K hK => ?_) AllReadyH.nil
          go_simp
          refine (refCompare_any _ _ _ _ _).mono ?_
          rintro e2 w2 ⟨rfl, hb2⟩
          rw [HZc.out]
          have g2 : w2.cell? ⟨q, 1, none⟩ = some (.slice (some ⟨bh, 0, none⟩) n ch) ∧ w2.cell? ⟨bh, k, none⟩ = some (.bool true) ∧ w2.cell? ⟨q, 2, none⟩ = some (.slice (some ⟨bu, 0, none⟩) n cu) ∧ w2.cell? ⟨bu, k * 2, none⟩ = some (.int .u32 (A.e k)) ∧ w2.cell? ⟨bu, k * 2 + 1, none⟩ = some (.int .u32 (A.m k)) ∧ w2.cell? ⟨w.heap.size, 0, none⟩ = some (.int .u32 e) ∧ w2.cell? ⟨w.heap.size, 1, none⟩ = some (.int .u32 m) := ⟨kcell hb2 g0.1, kcell hb2 g0.2.1, kcell hb2 g0.2.2.1, kcell hb2 g0.2.2.2.1, kcell hb2 g0.2.2.2.2.1, kcell hb2 g0.2.2.2.2.2.1, kcell hb2 g0.2.2.2.2.2.2⟩
          have HBX : Hid (Below W0.heap.size W0 w2) := HW.out.drew.trans (hb2.mono HZ.out)
          clear hb2
          refine hK.out _ _ g2 (fun hHeld => ?_)
          clear hK K
          refine wpAnyH_take (i := 17) (oi := { dst := some 34, op := Op.binOp BinOp.geq 3 (Operand.tmp 33) (Operand.const (Value.int IntKind.i64 0)) 3, type := 4, pos := "ref.go:141", after := #[{ on := 16, ground := Ground.data }, { on := 7, ground := Ground.guard }], guard := some (7, true) }) (v := ?_) rfl (by kernel_rfl) (by kernel_rfl) (by kernel_rfl) (fun _ _ _ h => h) (Or.inl ⟨by rfl, ?_⟩) (by assumption) ?_
          rotate_left
          · (intro w hSw; (try dsimp only at hSw); go_simp) <;> with_reducible rfl
          try simp only [Act.put, List.setIfInBounds_toArray, List.set_cons_zero, List.set_cons_succ]
          refine wpAnyH_take (i := 18) (oi := { dst := some 35, op := Op.pick (Operand.tmp 24) (Operand.tmp 34) (Operand.const (Value.bool false)), type := 4, pos := "ref.go:141", after := #[{ on := 7, ground := Ground.data }, { on := 17, ground := Ground.data }], guard := none }) (v := ?_) rfl (by kernel_rfl) (by kernel_rfl) (by kernel_rfl) (fun _ _ _ h => h) (Or.inl ⟨by rfl, ?_⟩) (by assumption) ?_
          rotate_left
          · (intro w hSw; (try dsimp only at hSw); go_simp) <;> with_reducible rfl
          try simp only [Act.put, List.setIfInBounds_toArray, List.set_cons_zero, List.set_cons_succ]
          refine wpAnyH_done (by kernel_rfl) ?_ _
          clear hHeld
          go_wp2
          go_roundw
          case rel => exact ⟨k + 1, by omega, HX.out, by rw [HQ.out], by simp, HBX⟩
          case measure => simp [intOf]; omega
    · obtain rfl : k = n := by omega
      clear HR
      go_wp2
      all_goals (go_ret; exact ⟨rfl, HBw.out⟩)

end Go.Proofs.Ytlnoighjdmjdeaa
