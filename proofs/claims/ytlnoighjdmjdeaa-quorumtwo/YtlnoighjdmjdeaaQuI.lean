/- What an Acks' Committed answers. -/
import Derived.Test.YtlnoighjdmjdeaaQuH
namespace Go.Proofs.Ytlnoighjdmjdeaa
open Go.RowKit Go.Shelf
set_option maxRecDepth 8000

/-- The greatest zxid up to which a quorum has acknowledged, of those of the first k servers. -/
def AcD.com (A : AcD) (D : SyD) : Nat → Bool × Int × Int
  | 0 => (false, 0, 0)
  | k + 1 => if A.so.testBit k = false ∨ ((A.com D k).1 = true ∧ zcmp (A.e k) (A.m k) (A.com D k).2.1 (A.com D k).2.2 ≤ 0) then A.com D k else if D.has (A.frN (A.e k) (A.m k) D.n).testBit = true then (true, A.e k, A.m k) else A.com D k

/-- A Committed under way. -/
structure Cn (w W : World) (e m : Int) : Prop where
  r0 : W.heap[w.heap.size]? = some (.cells #[.int .u32 0, .int .u32 0] 38 (0, 0))
  r1 : W.heap[w.heap.size + 1]? = some (.cells #[.int .u32 e, .int .u32 m] 38 (0, 0))
  be : Below w.heap.size w W
structure Cm (w W : World) (p s : Nat) (D : SyD) (A : AcD) (e m : Int) (b7 : Nat) (ez mz : Int) : Prop where
  cm : Cn w W e m
  sy : IsSy W s D
  ac : IsAc W p s A
  r7 : W.heap[b7]? = some (.cells #[.int .u32 ez, .int .u32 mz] 38 (0, 0))
  ne : w.heap.size + 1 < b7
theorem keepH {W W' : World} (h : Below W.heap.size W W') {b : Nat} {o : Obj} (hb : W.heap[b]? = some o) : W'.heap[b]? = some o := (Below.kept h).heap hb (by have := lt_of_block hb; omega)
theorem Cm.later {w W W' : World} {p s : Nat} {D : SyD} {A : AcD} {e m : Int} {b7 : Nat} {ez mz : Int} (h : Cm w W p s D A e m b7 ez mz) (hb : Below W.heap.size W W') : Cm w W' p s D A e m b7 ez mz :=
  ⟨⟨keepH hb h.cm.r0, keepH hb h.cm.r1, h.cm.be.trans (hb.mono h.cm.be.size)⟩, h.sy.below hb h.sy.lt, h.ac.below hb h.ac.lt, keepH hb h.r7, h.ne⟩
theorem Cm.drew {w W : World} {p s : Nat} {D : SyD} {A : AcD} {e m : Int} {b7 : Nat} {ez mz : Int} (h : Cm w W p s D A e m b7 ez mz) : Cm w W.drew p s D A e m b7 ez mz :=
  ⟨⟨h.cm.r0, h.cm.r1, h.cm.be.drew⟩, h.sy, h.ac, h.r7, h.ne⟩

theorem q2z : (Try.prog.info? 38).map (·.size) = some 2 := by kernel_rfl
theorem set_row_kept (W : World) (g : Nat) (cs : Array Value) : Kept W (W.setRow g cs) (fun q => q = g) := ⟨rfl, rfl, rfl, by simp, fun q _ hn => setRow_other _ _ _ _ hn⟩
theorem Cn.set1 {w W : World} {e m : Int} (h : Cn w W e m) (ez mz : Int) : Cn w (W.setRow (w.heap.size + 1) #[.int .u32 ez, .int .u32 mz]) ez mz :=
  ⟨(setRow_other _ _ _ _ (by omega)).trans h.r0, setRow_heap W _ _ _ _ _ h.r1, h.be.trans ((set_row_kept W _ _).below h.be.size (fun q e => by omega))⟩
theorem Cn.set0 {w W : World} {e m : Int} (h : Cn w W e m) (ez mz : Int) : (W.setRow w.heap.size #[.int .u32 ez, .int .u32 mz]).heap[w.heap.size]? = some (.cells #[.int .u32 ez, .int .u32 mz] 38 (0, 0)) ∧ Below w.heap.size w (W.setRow w.heap.size #[.int .u32 ez, .int .u32 mz]) :=
  ⟨setRow_heap W _ _ _ _ _ h.r0, h.be.trans ((set_row_kept W _ _).below h.be.size (fun q e => by omega))⟩

theorem com_any {w : World} {p s : Nat} {D : SyD} {A : AcD} (hD : D.Good) (h : IsSy w s D) (ha : IsAc w p s A) (hs : A.so < 256) : Calls Try.prog 16 #[.pointer (some ⟨p, 0, none⟩)] w fun r w' => r = .returned (.tuple #[zx (A.com D D.n).2.1 (A.com D D.n).2.2, .bool (A.com D D.n).1]) ∧ Below w.heap.size w w' := by
  have HD : Hid D.Good := hD
  have n7 := hD.n7
  have hz := ha.lt
  have hzs := h.lt
  obtain ⟨W0, hW0⟩ : ∃ W0, W0 = w.alloc (.cells #[.int .u32 0, .int .u32 0] 38) := ⟨_, rfl⟩
  have hb0 : Below w.heap.size w W0 := by rw [hW0]; exact one_alloc w _
  have z0 : W0.heap.size = w.heap.size + 1 := by rw [hW0]; simp
  have r0 : W0.heap[w.heap.size]? = some (.cells #[.int .u32 0, .int .u32 0] 38 (0, 0)) := by rw [hW0]; exact heap_alloc_new _ _
  obtain ⟨W1, hW1⟩ : ∃ W1, W1 = W0.alloc (.cells #[.int .u32 0, .int .u32 0] 38) := ⟨_, rfl⟩
  have hb1 : Below W0.heap.size W0 W1 := by rw [hW1]; exact one_alloc W0 _
  have hb01 : Below w.heap.size w W1 := hb0.trans (hb1.mono hb0.size)
  have HC0 : Hid (Cn w W1 0 0) := ⟨keepH hb1 r0, by rw [hW1, ← z0]; exact heap_alloc_new _ _, hb01⟩
  have HN : Hid (Calls Try.prog 33 #[.pointer (some ⟨p, 0, none⟩)] W0 fun e w' => e = .returned (.bool false) ∧ w' = W0) := isNone_ac hD (h.below hb0 hzs) (ha.below hb0 hz)
  have HS : Hid (Calls Try.prog 13 #[.pointer (some ⟨s, 0, none⟩)] W1 fun e w' => e = .returned (.int .i64 D.n) ∧ w' = W1) := size_sy hD (h.below hb01 hzs)
  have c0 := (ha.below hb01 hz).c0
  have z1 := (ha.below hb01 hz).lt
  have HA : Hid (IsAc w p s A) := ha
  have HI : Hid (IsSy w s D) := h
  have HW0 : Hid (w.alloc (.cells #[.int .u32 0, .int .u32 0] 38) = W0) := hW0.symm
  have HW1 : Hid (W0.alloc (.cells #[.int .u32 0, .int .u32 0] 38) = W1) := hW1.symm
  have HZ0 : Hid (W0.heap.size = w.heap.size + 1) := z0
  clear hW0 hW1 hb0 hb1 hb01 r0 h ha hD z0
  obtain ⟨N, hN⟩ : ∃ N : Nat, N = D.n := ⟨_, rfl⟩
  have HE : Hid (N = D.n) := hN
  rw [← hN] at HS
  have nN : N ≤ 7 := by omega
  clear hN
  obtain ⟨R, hR⟩ : ∃ R, R = A.com D D.n := ⟨_, rfl⟩
  have HRr : Hid (R = A.com D D.n) := hR
  rw [← hR]
  clear hR
  go_enter Try.func16, Try.ntmps16
  go_upto_region 1 with fail
  rw [HW0.out]
  clear HW0
  go_wp2_with fail
  refine Calls.mono HN.out ?_
  rintro r w1 ⟨rfl, hw1⟩
  rw [hw1]
  clear hw1 HN w1
  go_upto_region 5 with fail
  rw [HW1.out, HZ0.out]
  clear HW1 HZ0
  go_wp2_with fail
  refine Calls.mono HS.out ?_
  rintro r w1 ⟨rfl, hw1⟩
  rw [hw1]
  clear hw1 HS w1 c0 z1
  go_wp2
  go_loopw [5, 16] (fun v5 vi wr => ∃ (k : Nat) (e m : Int) (fo : Bool), k ≤ N ∧ Hid (A.com D k = (fo, e, m)) ∧ v5 = .bool fo ∧ vi = .int .i64 (k : Int) ∧ Hid (Cn w wr e m)) (fun _ vi _ => N - (intOf vi).toNat)
  case atStart => exact ⟨0, 0, 0, false, by omega, rfl, rfl, rfl, HC0⟩
  case round =>
    clear HC0
    obtain ⟨k, e, m, fo, hk, HCk, rfl, rfl, HM⟩ := hrel
    by_cases hkN : k < N
    · have hk7 : k < 7 := by omega
      have hk8 : k < 8 := by omega
      have hi0 : (0 : Int) ≤ (k : Int) := by omega
      have hi7 : (k : Int) < 7 := by omega
      have hiN : (k : Int) < (N : Int) := by omega
      have hAr := HA.out.below HM.out.be hz
      have hIr := HI.out.below HM.out.be hzs
      have ce := hAr.ce hk7
      have cm := hAr.cm hk7
      have hzr := hAr.lt
      obtain ⟨ez, hez⟩ : ∃ ez, ez = A.e k := ⟨_, rfl⟩
      obtain ⟨mz, hmz⟩ : ∃ mz, mz = A.m k := ⟨_, rfl⟩
      rw [← hez] at ce
      rw [← hmz] at cm
      obtain ⟨b7, hb7⟩ : ∃ b7, b7 = wr.heap.size := ⟨_, rfl⟩
      have HM1 : Hid (Cm w (wr.alloc (.cells #[.int .u32 ez, .int .u32 mz] 38)) p s D A e m b7 ez mz) := by
        have q : Below wr.heap.size wr (wr.alloc (.cells #[.int .u32 ez, .int .u32 mz] 38)) := one_alloc wr _
        exact ⟨⟨keepH q HM.out.r0, keepH q HM.out.r1, HM.out.be.trans (q.mono HM.out.be.size)⟩, hIr.below q hIr.lt, hAr.below q hAr.lt, by rw [hb7]; exact heap_alloc_new _ _, by rw [hb7]; exact lt_of_block HM.out.r1⟩
      have HB7 : Hid (wr.heap.size = b7) := hb7.symm
      have g1 : (wr.alloc (.cells #[.int .u32 ez, .int .u32 mz] 38)).cell? ⟨p, 0, none⟩ = some (.pointer (some ⟨s, 0, none⟩)) ∧ (wr.alloc (.cells #[.int .u32 ez, .int .u32 mz] 38)).cell? ⟨p, 2, none⟩ = some (.int .u8 (A.so : Int)) ∧ (wr.alloc (.cells #[.int .u32 ez, .int .u32 mz] 38)).cell? ⟨w.heap.size + 1, 0, none⟩ = some (.int .u32 e) ∧ (wr.alloc (.cells #[.int .u32 ez, .int .u32 mz] 38)).cell? ⟨w.heap.size + 1, 1, none⟩ = some (.int .u32 m) ∧ (wr.alloc (.cells #[.int .u32 ez, .int .u32 mz] 38)).cell? ⟨b7, 0, none⟩ = some (.int .u32 ez) ∧ (wr.alloc (.cells #[.int .u32 ez, .int .u32 mz] 38)).cell? ⟨b7, 1, none⟩ = some (.int .u32 mz) := ⟨HM1.out.ac.c0, HM1.out.ac.c2, cell_of_row _ _ 0 _ _ _ HM1.out.cm.r1, cell_of_row _ _ 1 _ _ _ HM1.out.cm.r1, cell_of_row _ _ 0 _ _ _ HM1.out.r7, cell_of_row _ _ 1 _ _ _ HM1.out.r7⟩
      have ht := and_bq hs hk8
      have sC : Hid (A.com D (k + 1) = if A.so.testBit k = false ∨ (fo = true ∧ zcmp ez mz e m ≤ 0) then (fo, e, m) else if D.has (A.frN ez mz D.n).testBit = true then (true, ez, mz) else (fo, e, m)) := by
        show _ = _
        unfold AcD.com
        rw [HCk.out, hez, hmz]
      clear hAr hIr HM HCk hez hmz hb7
      cases hb : A.so.testBit k with
      | false =>
        rw [hb] at ht
        have hq : (bits .and .u8 (A.so : Int) (bq k) == 0) = true := by have := ht; simpa [bne] using this
        have HCs : Hid (A.com D (k + 1) = (fo, e, m)) := by show _ = _; rw [sC.out, if_pos (.inl hb)]
        clear hb sC
        go_upto_region 9 with fail
        rw [HB7.out]
        clear HB7 ce cm
        refine wp_region_held_drew (S := (fun W => W.cell? ⟨p, 0, none⟩ = some (.pointer (some ⟨s, 0, none⟩)) ∧ W.cell? ⟨p, 2, none⟩ = some (.int .u8 (A.so : Int)) ∧ W.cell? ⟨w.heap.size + 1, 0, none⟩ = some (.int .u32 e) ∧ W.cell? ⟨w.heap.size + 1, 1, none⟩ = some (.int .u32 m) ∧ W.cell? ⟨b7, 0, none⟩ = some (.int .u32 ez) ∧ W.cell? ⟨b7, 1, none⟩ = some (.int .u32 mz))) (by kernel_rfl) ?_ (fun hHeld => ?_)
        · exact g1
        refine wpAnyH_take (i := 0) (oi := { dst := some 25, op := Op.move (Operand.tmp 0), type := 33, pos := "acks.go:53", after := #[], guard := none }) (v := ?_) rfl (by kernel_rfl) (by kernel_rfl) (by kernel_rfl) (fun _ _ _ h => h) (Or.inl ⟨by rfl, ?_⟩) (by assumption) ?_
        rotate_left
        · (intro w hSw; (try dsimp only at hSw); go_simp) <;> with_reducible rfl
        try simp only [Act.put, List.setIfInBounds_toArray, List.set_cons_zero, List.set_cons_succ]
        refine wpAnyH_take (i := 1) (oi := { dst := some 26, op := Op.nilCheck (Operand.tmp 25), type := 0, pos := "acks.go:53", after := #[{ on := 0, ground := Ground.data }], guard := none }) (v := ?_) rfl (by kernel_rfl) (by kernel_rfl) (by kernel_rfl) (fun _ _ _ h => h) (Or.inl ⟨by rfl, ?_⟩) (by assumption) ?_
        rotate_left
        · (intro w hSw; (try dsimp only at hSw); go_simp) <;> with_reducible rfl
        try simp only [Act.put, List.setIfInBounds_toArray, List.set_cons_zero, List.set_cons_succ]
        refine wpAnyH_take (i := 2) (oi := { dst := some 27, op := Op.fieldAddr 41 (Operand.tmp 26) 2, type := 0, pos := "acks.go:53", after := #[{ on := 1, ground := Ground.data }], guard := none }) (v := ?_) rfl (by kernel_rfl) (by kernel_rfl) (by kernel_rfl) (fun _ _ _ h => h) (Or.inl ⟨by rfl, ?_⟩) (by assumption) ?_
        rotate_left
        · (intro w hSw; (try dsimp only at hSw); go_simp) <;> with_reducible rfl
        try simp only [Act.put, List.setIfInBounds_toArray, List.set_cons_zero, List.set_cons_succ]
        refine wpAnyH_take (i := 3) (oi := { dst := some 28, op := Op.load 5 (Operand.tmp 27), type := 5, pos := "acks.go:53", after := #[{ on := 2, ground := Ground.data }], guard := none }) (v := ?_) rfl (by kernel_rfl) (by kernel_rfl) (by kernel_rfl) (fun _ _ _ h => h) (Or.inl ⟨by rfl, ?_⟩) (by assumption) ?_
        rotate_left
        · (intro w hSw; (try dsimp only at hSw); go_simp) <;> with_reducible rfl
        try simp only [Act.put, List.setIfInBounds_toArray, List.set_cons_zero, List.set_cons_succ]
        refine wpAnyH_take (i := 4) (oi := { dst := some 29, op := Op.move (Operand.tmp 6), type := 3, pos := "acks.go:53", after := #[], guard := none }) (v := ?_) rfl (by kernel_rfl) (by kernel_rfl) (by kernel_rfl) (fun _ _ _ h => h) (Or.inl ⟨by rfl, ?_⟩) (by assumption) ?_
        rotate_left
        · (intro w hSw; (try dsimp only at hSw); go_simp) <;> with_reducible rfl
        try simp only [Act.put, List.setIfInBounds_toArray, List.set_cons_zero, List.set_cons_succ]
        refine wpAnyH_ready (rs := [5]) (by kernel_rfl) (by simp) ?_
        refine AllReadyH.cons (o := { dst := some 30, op := Op.call { callee := Callee.value (Operand.func 34), args := #[Operand.tmp 29], argTypes := #[3] }, type := 5, pos := "acks.go:53", after := #[{ on := 4, ground := Ground.data }], guard := none }) rfl (fun K hK => ?_) AllReadyH.nil
        go_simp
        refine (bit_any hk8 _).mono ?_
        rintro r1 w1 ⟨rfl, rfl⟩
        refine hK.out _ _ g1 (fun hHeld => ?_)
        clear hK K
        refine wpAnyH_take (i := 6) (oi := { dst := some 31, op := Op.binOp BinOp.and 5 (Operand.tmp 28) (Operand.tmp 30) 5, type := 5, pos := "acks.go:53", after := #[{ on := 3, ground := Ground.data }, { on := 5, ground := Ground.data }], guard := none }) (v := ?_) rfl (by kernel_rfl) (by kernel_rfl) (by kernel_rfl) (fun _ _ _ h => h) (Or.inl ⟨by rfl, ?_⟩) (by assumption) ?_
        rotate_left
        · (intro w hSw; (try dsimp only at hSw); go_simp) <;> with_reducible rfl
        try simp only [Act.put, List.setIfInBounds_toArray, List.set_cons_zero, List.set_cons_succ]
        refine wpAnyH_take (i := 7) (oi := { dst := some 32, op := Op.binOp BinOp.eql 5 (Operand.tmp 31) (Operand.const (Value.int IntKind.u8 0)) 5, type := 4, pos := "acks.go:53", after := #[{ on := 6, ground := Ground.data }], guard := none }) (v := ?_) rfl (by kernel_rfl) (by kernel_rfl) (by kernel_rfl) (fun _ _ _ h => h) (Or.inl ⟨by rfl, ?_⟩) (by assumption) ?_
        rotate_left
        · (intro w hSw; (try dsimp only at hSw); go_simp) <;> with_reducible rfl
        try simp only [Act.put, List.setIfInBounds_toArray, List.set_cons_zero, List.set_cons_succ]
        refine wpAnyH_take (i := 8) (oi := { dst := some 33, op := Op.move (Operand.tmp 32), type := 4, pos := "acks.go:53", after := #[{ on := 7, ground := Ground.data }, { on := 5, ground := Ground.chain }], guard := none }) (v := ?_) rfl (by kernel_rfl) (by kernel_rfl) (by kernel_rfl) (fun _ _ _ h => h) (Or.inl ⟨by rfl, ?_⟩) (by assumption) ?_
        rotate_left
        · (intro w hSw; (try dsimp only at hSw); go_simp) <;> with_reducible rfl
        try simp only [Act.put, List.setIfInBounds_toArray, List.set_cons_zero, List.set_cons_succ]
        refine wpAnyH_take (i := 9) (oi := { dst := some 34, op := Op.move (Operand.tmp 5), type := 4, pos := "acks.go:53", after := #[{ on := 8, ground := Ground.guard }], guard := some (8, false) }) (v := undef) rfl (by kernel_rfl) (by kernel_rfl) (by kernel_rfl) (fun _ _ _ h => h) (Or.inr ⟨by rfl, rfl⟩) (by assumption) ?_
        try simp only [Act.put, List.setIfInBounds_toArray, List.set_cons_zero, List.set_cons_succ]
        refine wpAnyH_take (i := 10) (oi := { dst := some 35, op := Op.move (Operand.tmp 34), type := 4, pos := "acks.go:53", after := #[{ on := 9, ground := Ground.data }, { on := 8, ground := Ground.chain }, { on := 8, ground := Ground.guard }], guard := some (8, false) }) (v := undef) rfl (by kernel_rfl) (by kernel_rfl) (by kernel_rfl) (fun _ _ _ h => h) (Or.inr ⟨by rfl, rfl⟩) (by assumption) ?_
        try simp only [Act.put, List.setIfInBounds_toArray, List.set_cons_zero, List.set_cons_succ]
        refine wpAnyH_take (i := 11) (oi := { dst := some 36, op := Op.load 38 (Operand.tmp 7), type := 38, pos := "acks.go:53", after := #[{ on := 10, ground := Ground.guard }], guard := some (10, true) }) (v := undef) rfl (by kernel_rfl) (by kernel_rfl) (by kernel_rfl) (fun _ _ _ h => h) (Or.inr ⟨by rfl, rfl⟩) (by assumption) ?_
        try simp only [Act.put, List.setIfInBounds_toArray, List.set_cons_zero, List.set_cons_succ]
        refine wpAnyH_take (i := 12) (oi := { dst := some 37, op := Op.load 38 (Operand.tmp 4), type := 38, pos := "acks.go:53", after := #[{ on := 10, ground := Ground.guard }], guard := some (10, true) }) (v := undef) rfl (by kernel_rfl) (by kernel_rfl) (by kernel_rfl) (fun _ _ _ h => h) (Or.inr ⟨by rfl, rfl⟩) (by assumption) ?_
        try simp only [Act.put, List.setIfInBounds_toArray, List.set_cons_zero, List.set_cons_succ]
        refine wpAnyH_ready (rs := [13]) (by kernel_rfl) (by simp) ?_
        refine AllReadyH.cons (o := { dst := some 38, op := Op.call { callee := Callee.value (Operand.func 35), args := #[Operand.tmp 36, Operand.tmp 37], argTypes := #[38, 38] }, type := 3, pos := "acks.go:53", after := #[{ on := 11, ground := Ground.data }, { on := 12, ground := Ground.data }, { on := 10, ground := Ground.chain }, { on := 10, ground := Ground.guard }], guard := some (10, true) }) rfl (fun K hK => ?_) AllReadyH.nil
        go_simp
        refine hK.out _ _ (by assumption) (fun _ => ?_)
        clear hK K
        refine wpAnyH_take (i := 14) (oi := { dst := some 39, op := Op.binOp BinOp.leq 3 (Operand.tmp 38) (Operand.const (Value.int IntKind.i64 0)) 3, type := 4, pos := "acks.go:53", after := #[{ on := 13, ground := Ground.data }, { on := 10, ground := Ground.guard }], guard := some (10, true) }) (v := undef) rfl (by kernel_rfl) (by kernel_rfl) (by kernel_rfl) (fun _ _ _ h => h) (Or.inr ⟨by rfl, rfl⟩) (by assumption) ?_
        try simp only [Act.put, List.setIfInBounds_toArray, List.set_cons_zero, List.set_cons_succ]
        refine wpAnyH_take (i := 15) (oi := { dst := some 40, op := Op.pick (Operand.tmp 35) (Operand.tmp 39) (Operand.const (Value.bool false)), type := 4, pos := "acks.go:53", after := #[{ on := 10, ground := Ground.data }, { on := 14, ground := Ground.data }, { on := 8, ground := Ground.guard }], guard := some (8, false) }) (v := undef) rfl (by kernel_rfl) (by kernel_rfl) (by kernel_rfl) (fun _ _ _ h => h) (Or.inr ⟨by rfl, rfl⟩) (by assumption) ?_
        try simp only [Act.put, List.setIfInBounds_toArray, List.set_cons_zero, List.set_cons_succ]
        refine wpAnyH_take (i := 16) (oi := { dst := some 41, op := Op.pick (Operand.tmp 33) (Operand.const (Value.bool true)) (Operand.tmp 40), type := 4, pos := "acks.go:53", after := #[{ on := 8, ground := Ground.data }, { on := 15, ground := Ground.data }], guard := none }) (v := ?_) rfl (by kernel_rfl) (by kernel_rfl) (by kernel_rfl) (fun _ _ _ h => h) (Or.inl ⟨by rfl, ?_⟩) (by assumption) ?_
        rotate_left
        · (intro w hSw; (try dsimp only at hSw); go_simp) <;> with_reducible rfl
        try simp only [Act.put, List.setIfInBounds_toArray, List.set_cons_zero, List.set_cons_succ]
        refine wpAnyH_done (by kernel_rfl) ?_ _
        clear hHeld
        go_wp2
        go_roundw
        case rel => exact ⟨k + 1, e, m, fo, by omega, HCs.out, rfl, by simp, HM1.out.drew.cm⟩
        case measure => simp [intOf]; omega
      | true =>
        rw [hb] at ht
        have hq : (bits .and .u8 (A.so : Int) (bq k) == 0) = false := by have := ht; simpa [bne] using this
        obtain ⟨vh, hvh⟩ : ∃ vh, vh = D.has (A.frN ez mz D.n).testBit := ⟨_, rfl⟩
        have HVh : Hid (D.has (A.frN ez mz D.n).testBit = vh) := hvh.symm
        rw [← hvh] at sC
        clear hvh
        cases fo with
        | false =>
          have HCn : Hid (vh = false → A.com D (k + 1) = (false, e, m)) := fun q => by rw [sC.out, hb, q, if_neg (by simp), if_neg (by simp)]
          have HCy : Hid (vh = true → A.com D (k + 1) = (true, ez, mz)) := fun q => by rw [sC.out, hb, q, if_neg (by simp), if_pos rfl]
          have HM1D : Hid (Cm w (wr.alloc (.cells #[.int .u32 ez, .int .u32 mz] 38)).drew p s D A e m b7 ez mz) := HM1.out.drew
          clear hb sC
          go_upto_region 9 with fail
          rw [HB7.out]
          clear HB7 ce cm
          refine wp_region_held_drew (S := (fun W => W.cell? ⟨p, 0, none⟩ = some (.pointer (some ⟨s, 0, none⟩)) ∧ W.cell? ⟨p, 2, none⟩ = some (.int .u8 (A.so : Int)) ∧ W.cell? ⟨w.heap.size + 1, 0, none⟩ = some (.int .u32 e) ∧ W.cell? ⟨w.heap.size + 1, 1, none⟩ = some (.int .u32 m) ∧ W.cell? ⟨b7, 0, none⟩ = some (.int .u32 ez) ∧ W.cell? ⟨b7, 1, none⟩ = some (.int .u32 mz))) (by kernel_rfl) ?_ (fun hHeld => ?_)
          · exact g1
          refine wpAnyH_take (i := 0) (oi := { dst := some 25, op := Op.move (Operand.tmp 0), type := 33, pos := "acks.go:53", after := #[], guard := none }) (v := ?_) rfl (by kernel_rfl) (by kernel_rfl) (by kernel_rfl) (fun _ _ _ h => h) (Or.inl ⟨by rfl, ?_⟩) (by assumption) ?_
          rotate_left
          · (intro w hSw; (try dsimp only at hSw); go_simp) <;> with_reducible rfl
          try simp only [Act.put, List.setIfInBounds_toArray, List.set_cons_zero, List.set_cons_succ]
          refine wpAnyH_take (i := 1) (oi := { dst := some 26, op := Op.nilCheck (Operand.tmp 25), type := 0, pos := "acks.go:53", after := #[{ on := 0, ground := Ground.data }], guard := none }) (v := ?_) rfl (by kernel_rfl) (by kernel_rfl) (by kernel_rfl) (fun _ _ _ h => h) (Or.inl ⟨by rfl, ?_⟩) (by assumption) ?_
          rotate_left
          · (intro w hSw; (try dsimp only at hSw); go_simp) <;> with_reducible rfl
          try simp only [Act.put, List.setIfInBounds_toArray, List.set_cons_zero, List.set_cons_succ]
          refine wpAnyH_take (i := 2) (oi := { dst := some 27, op := Op.fieldAddr 41 (Operand.tmp 26) 2, type := 0, pos := "acks.go:53", after := #[{ on := 1, ground := Ground.data }], guard := none }) (v := ?_) rfl (by kernel_rfl) (by kernel_rfl) (by kernel_rfl) (fun _ _ _ h => h) (Or.inl ⟨by rfl, ?_⟩) (by assumption) ?_
          rotate_left
          · (intro w hSw; (try dsimp only at hSw); go_simp) <;> with_reducible rfl
          try simp only [Act.put, List.setIfInBounds_toArray, List.set_cons_zero, List.set_cons_succ]
          refine wpAnyH_take (i := 3) (oi := { dst := some 28, op := Op.load 5 (Operand.tmp 27), type := 5, pos := "acks.go:53", after := #[{ on := 2, ground := Ground.data }], guard := none }) (v := ?_) rfl (by kernel_rfl) (by kernel_rfl) (by kernel_rfl) (fun _ _ _ h => h) (Or.inl ⟨by rfl, ?_⟩) (by assumption) ?_
          rotate_left
          · (intro w hSw; (try dsimp only at hSw); go_simp) <;> with_reducible rfl
          try simp only [Act.put, List.setIfInBounds_toArray, List.set_cons_zero, List.set_cons_succ]
          refine wpAnyH_take (i := 4) (oi := { dst := some 29, op := Op.move (Operand.tmp 6), type := 3, pos := "acks.go:53", after := #[], guard := none }) (v := ?_) rfl (by kernel_rfl) (by kernel_rfl) (by kernel_rfl) (fun _ _ _ h => h) (Or.inl ⟨by rfl, ?_⟩) (by assumption) ?_
          rotate_left
          · (intro w hSw; (try dsimp only at hSw); go_simp) <;> with_reducible rfl
          try simp only [Act.put, List.setIfInBounds_toArray, List.set_cons_zero, List.set_cons_succ]
          refine wpAnyH_ready (rs := [5]) (by kernel_rfl) (by simp) ?_
          refine AllReadyH.cons (o := { dst := some 30, op := Op.call { callee := Callee.value (Operand.func 34), args := #[Operand.tmp 29], argTypes := #[3] }, type := 5, pos := "acks.go:53", after := #[{ on := 4, ground := Ground.data }], guard := none }) rfl (fun K hK => ?_) AllReadyH.nil
          go_simp
          refine (bit_any hk8 _).mono ?_
          rintro r1 w1 ⟨rfl, rfl⟩
          refine hK.out _ _ g1 (fun hHeld => ?_)
          clear hK K
          refine wpAnyH_take (i := 6) (oi := { dst := some 31, op := Op.binOp BinOp.and 5 (Operand.tmp 28) (Operand.tmp 30) 5, type := 5, pos := "acks.go:53", after := #[{ on := 3, ground := Ground.data }, { on := 5, ground := Ground.data }], guard := none }) (v := ?_) rfl (by kernel_rfl) (by kernel_rfl) (by kernel_rfl) (fun _ _ _ h => h) (Or.inl ⟨by rfl, ?_⟩) (by assumption) ?_
          rotate_left
          · (intro w hSw; (try dsimp only at hSw); go_simp) <;> with_reducible rfl
          try simp only [Act.put, List.setIfInBounds_toArray, List.set_cons_zero, List.set_cons_succ]
          refine wpAnyH_take (i := 7) (oi := { dst := some 32, op := Op.binOp BinOp.eql 5 (Operand.tmp 31) (Operand.const (Value.int IntKind.u8 0)) 5, type := 4, pos := "acks.go:53", after := #[{ on := 6, ground := Ground.data }], guard := none }) (v := ?_) rfl (by kernel_rfl) (by kernel_rfl) (by kernel_rfl) (fun _ _ _ h => h) (Or.inl ⟨by rfl, ?_⟩) (by assumption) ?_
          rotate_left
          · (intro w hSw; (try dsimp only at hSw); go_simp) <;> with_reducible rfl
          try simp only [Act.put, List.setIfInBounds_toArray, List.set_cons_zero, List.set_cons_succ]
          refine wpAnyH_take (i := 8) (oi := { dst := some 33, op := Op.move (Operand.tmp 32), type := 4, pos := "acks.go:53", after := #[{ on := 7, ground := Ground.data }, { on := 5, ground := Ground.chain }], guard := none }) (v := ?_) rfl (by kernel_rfl) (by kernel_rfl) (by kernel_rfl) (fun _ _ _ h => h) (Or.inl ⟨by rfl, ?_⟩) (by assumption) ?_
          rotate_left
          · (intro w hSw; (try dsimp only at hSw); go_simp) <;> with_reducible rfl
          try simp only [Act.put, List.setIfInBounds_toArray, List.set_cons_zero, List.set_cons_succ]
          refine wpAnyH_take (i := 9) (oi := { dst := some 34, op := Op.move (Operand.tmp 5), type := 4, pos := "acks.go:53", after := #[{ on := 8, ground := Ground.guard }], guard := some (8, false) }) (v := ?_) rfl (by kernel_rfl) (by kernel_rfl) (by kernel_rfl) (fun _ _ _ h => h) (Or.inl ⟨by rfl, ?_⟩) (by assumption) ?_
          rotate_left
          · (intro w hSw; (try dsimp only at hSw); go_simp) <;> with_reducible rfl
          try simp only [Act.put, List.setIfInBounds_toArray, List.set_cons_zero, List.set_cons_succ]
          refine wpAnyH_take (i := 10) (oi := { dst := some 35, op := Op.move (Operand.tmp 34), type := 4, pos := "acks.go:53", after := #[{ on := 9, ground := Ground.data }, { on := 8, ground := Ground.chain }, { on := 8, ground := Ground.guard }], guard := some (8, false) }) (v := ?_) rfl (by kernel_rfl) (by kernel_rfl) (by kernel_rfl) (fun _ _ _ h => h) (Or.inl ⟨by rfl, ?_⟩) (by assumption) ?_
          rotate_left
          · (intro w hSw; (try dsimp only at hSw); go_simp) <;> with_reducible rfl
          try simp only [Act.put, List.setIfInBounds_toArray, List.set_cons_zero, List.set_cons_succ]
          refine wpAnyH_take (i := 11) (oi := { dst := some 36, op := Op.load 38 (Operand.tmp 7), type := 38, pos := "acks.go:53", after := #[{ on := 10, ground := Ground.guard }], guard := some (10, true) }) (v := undef) rfl (by kernel_rfl) (by kernel_rfl) (by kernel_rfl) (fun _ _ _ h => h) (Or.inr ⟨by rfl, rfl⟩) (by assumption) ?_
          try simp only [Act.put, List.setIfInBounds_toArray, List.set_cons_zero, List.set_cons_succ]
          refine wpAnyH_take (i := 12) (oi := { dst := some 37, op := Op.load 38 (Operand.tmp 4), type := 38, pos := "acks.go:53", after := #[{ on := 10, ground := Ground.guard }], guard := some (10, true) }) (v := undef) rfl (by kernel_rfl) (by kernel_rfl) (by kernel_rfl) (fun _ _ _ h => h) (Or.inr ⟨by rfl, rfl⟩) (by assumption) ?_
          try simp only [Act.put, List.setIfInBounds_toArray, List.set_cons_zero, List.set_cons_succ]
          refine wpAnyH_ready (rs := [13]) (by kernel_rfl) (by simp) ?_
          refine AllReadyH.cons (o := { dst := some 38, op := Op.call { callee := Callee.value (Operand.func 35), args := #[Operand.tmp 36, Operand.tmp 37], argTypes := #[38, 38] }, type := 3, pos := "acks.go:53", after := #[{ on := 11, ground := Ground.data }, { on := 12, ground := Ground.data }, { on := 10, ground := Ground.chain }, { on := 10, ground := Ground.guard }], guard := some (10, true) }) rfl (fun K hK => ?_) AllReadyH.nil
          go_simp
          refine hK.out _ _ (by assumption) (fun _ => ?_)
          clear hK K
          refine wpAnyH_take (i := 14) (oi := { dst := some 39, op := Op.binOp BinOp.leq 3 (Operand.tmp 38) (Operand.const (Value.int IntKind.i64 0)) 3, type := 4, pos := "acks.go:53", after := #[{ on := 13, ground := Ground.data }, { on := 10, ground := Ground.guard }], guard := some (10, true) }) (v := undef) rfl (by kernel_rfl) (by kernel_rfl) (by kernel_rfl) (fun _ _ _ h => h) (Or.inr ⟨by rfl, rfl⟩) (by assumption) ?_
          try simp only [Act.put, List.setIfInBounds_toArray, List.set_cons_zero, List.set_cons_succ]
          refine wpAnyH_take (i := 15) (oi := { dst := some 40, op := Op.pick (Operand.tmp 35) (Operand.tmp 39) (Operand.const (Value.bool false)), type := 4, pos := "acks.go:53", after := #[{ on := 10, ground := Ground.data }, { on := 14, ground := Ground.data }, { on := 8, ground := Ground.guard }], guard := some (8, false) }) (v := ?_) rfl (by kernel_rfl) (by kernel_rfl) (by kernel_rfl) (fun _ _ _ h => h) (Or.inl ⟨by rfl, ?_⟩) (by assumption) ?_
          rotate_left
          · (intro w hSw; (try dsimp only at hSw); go_simp) <;> with_reducible rfl
          try simp only [Act.put, List.setIfInBounds_toArray, List.set_cons_zero, List.set_cons_succ]
          refine wpAnyH_take (i := 16) (oi := { dst := some 41, op := Op.pick (Operand.tmp 33) (Operand.const (Value.bool true)) (Operand.tmp 40), type := 4, pos := "acks.go:53", after := #[{ on := 8, ground := Ground.data }, { on := 15, ground := Ground.data }], guard := none }) (v := ?_) rfl (by kernel_rfl) (by kernel_rfl) (by kernel_rfl) (fun _ _ _ h => h) (Or.inl ⟨by rfl, ?_⟩) (by assumption) ?_
          rotate_left
          · (intro w hSw; (try dsimp only at hSw); go_simp) <;> with_reducible rfl
          try simp only [Act.put, List.setIfInBounds_toArray, List.set_cons_zero, List.set_cons_succ]
          refine wpAnyH_done (by kernel_rfl) ?_ _
          clear hHeld
          go_wp2_with fail
          refine wp_region_held_drew (S := (fun W => W.cell? ⟨p, 0, none⟩ = some (.pointer (some ⟨s, 0, none⟩)) ∧ W.cell? ⟨p, 2, none⟩ = some (.int .u8 (A.so : Int)) ∧ W.cell? ⟨w.heap.size + 1, 0, none⟩ = some (.int .u32 e) ∧ W.cell? ⟨w.heap.size + 1, 1, none⟩ = some (.int .u32 m) ∧ W.cell? ⟨b7, 0, none⟩ = some (.int .u32 ez) ∧ W.cell? ⟨b7, 1, none⟩ = some (.int .u32 mz))) (by kernel_rfl) ?_ (fun hHeld => ?_)
          · exact g1
          refine wpAnyH_take (i := 0) (oi := { dst := some 42, op := Op.move (Operand.tmp 0), type := 33, pos := "acks.go:56", after := #[], guard := none }) (v := ?_) rfl (by kernel_rfl) (by kernel_rfl) (by kernel_rfl) (fun _ _ _ h => h) (Or.inl ⟨by rfl, ?_⟩) (by assumption) ?_
          rotate_left
          · (intro w hSw; (try dsimp only at hSw); go_simp) <;> with_reducible rfl
          try simp only [Act.put, List.setIfInBounds_toArray, List.set_cons_zero, List.set_cons_succ]
          refine wpAnyH_take (i := 1) (oi := { dst := some 43, op := Op.nilCheck (Operand.tmp 42), type := 0, pos := "acks.go:56", after := #[{ on := 0, ground := Ground.data }], guard := none }) (v := ?_) rfl (by kernel_rfl) (by kernel_rfl) (by kernel_rfl) (fun _ _ _ h => h) (Or.inl ⟨by rfl, ?_⟩) (by assumption) ?_
          rotate_left
          · (intro w hSw; (try dsimp only at hSw); go_simp) <;> with_reducible rfl
          try simp only [Act.put, List.setIfInBounds_toArray, List.set_cons_zero, List.set_cons_succ]
          refine wpAnyH_take (i := 2) (oi := { dst := some 44, op := Op.fieldAddr 41 (Operand.tmp 43) 0, type := 0, pos := "acks.go:56", after := #[{ on := 1, ground := Ground.data }], guard := none }) (v := ?_) rfl (by kernel_rfl) (by kernel_rfl) (by kernel_rfl) (fun _ _ _ h => h) (Or.inl ⟨by rfl, ?_⟩) (by assumption) ?_
          rotate_left
          · (intro w hSw; (try dsimp only at hSw); go_simp) <;> with_reducible rfl
          try simp only [Act.put, List.setIfInBounds_toArray, List.set_cons_zero, List.set_cons_succ]
          refine wpAnyH_take (i := 3) (oi := { dst := some 45, op := Op.load 25 (Operand.tmp 44), type := 25, pos := "acks.go:56", after := #[{ on := 2, ground := Ground.data }], guard := none }) (v := ?_) rfl (by kernel_rfl) (by kernel_rfl) (by kernel_rfl) (fun _ _ _ h => h) (Or.inl ⟨by rfl, ?_⟩) (by assumption) ?_
          rotate_left
          · (intro w hSw; (try dsimp only at hSw); go_simp) <;> with_reducible rfl
          try simp only [Act.put, List.setIfInBounds_toArray, List.set_cons_zero, List.set_cons_succ]
          refine wpAnyH_take (i := 4) (oi := { dst := some 46, op := Op.move (Operand.tmp 0), type := 33, pos := "acks.go:56", after := #[], guard := none }) (v := ?_) rfl (by kernel_rfl) (by kernel_rfl) (by kernel_rfl) (fun _ _ _ h => h) (Or.inl ⟨by rfl, ?_⟩) (by assumption) ?_
          rotate_left
          · (intro w hSw; (try dsimp only at hSw); go_simp) <;> with_reducible rfl
          try simp only [Act.put, List.setIfInBounds_toArray, List.set_cons_zero, List.set_cons_succ]
          refine wpAnyH_take (i := 5) (oi := { dst := some 47, op := Op.load 38 (Operand.tmp 7), type := 38, pos := "acks.go:56", after := #[], guard := none }) (v := ?_) rfl (by kernel_rfl) (by kernel_rfl) (by kernel_rfl) (fun _ _ _ h => h) (Or.inl ⟨by rfl, ?_⟩) (by assumption) ?_
          rotate_left
          · (intro w hSw; (try dsimp only at hSw); go_simp) <;> with_reducible rfl
          try simp only [Act.put, List.setIfInBounds_toArray, List.set_cons_zero, List.set_cons_succ]
          refine wpAnyH_ready (rs := [6]) (by kernel_rfl) (by simp) ?_
          refine AllReadyH.cons (o := { dst := some 48, op := Op.call { callee := Callee.value (Operand.func 36), args := #[Operand.tmp 46, Operand.tmp 47], argTypes := #[33, 38] }, type := 5, pos := "acks.go:56", after := #[{ on := 4, ground := Ground.data }, { on := 5, ground := Ground.data }], guard := none }) rfl (fun K hK => ?_) AllReadyH.nil
          go_simp
          refine (from_any HD.out HM1D.out.drew.sy HM1D.out.drew.ac hs ez mz).mono ?_
          rintro r3 w3 ⟨rfl, hb3⟩
          have g3 : w3.cell? ⟨p, 0, none⟩ = some (.pointer (some ⟨s, 0, none⟩)) ∧ w3.cell? ⟨p, 2, none⟩ = some (.int .u8 (A.so : Int)) ∧ w3.cell? ⟨w.heap.size + 1, 0, none⟩ = some (.int .u32 e) ∧ w3.cell? ⟨w.heap.size + 1, 1, none⟩ = some (.int .u32 m) ∧ w3.cell? ⟨b7, 0, none⟩ = some (.int .u32 ez) ∧ w3.cell? ⟨b7, 1, none⟩ = some (.int .u32 mz) := ⟨kcell hb3 g1.1, kcell hb3 g1.2.1, kcell hb3 g1.2.2.1, kcell hb3 g1.2.2.2.1, kcell hb3 g1.2.2.2.2.1, kcell hb3 g1.2.2.2.2.2⟩
          have HM3 : Hid (Cm w w3 p s D A e m b7 ez mz) := HM1D.out.drew.later hb3
          clear hb3
          refine hK.out _ _ g3 (fun hHeld => ?_)
          clear hK K
          refine wpAnyH_ready (rs := [7]) (by kernel_rfl) (by simp) ?_
          refine AllReadyH.cons (o := { dst := some 49, op := Op.call { callee := Callee.value (Operand.func 22), args := #[Operand.tmp 45, Operand.tmp 48], argTypes := #[25, 5] }, type := 4, pos := "acks.go:56", after := #[{ on := 3, ground := Ground.data }, { on := 6, ground := Ground.data }, { on := 6, ground := Ground.chain }], guard := none }) rfl (fun K hK => ?_) AllReadyH.nil
          go_simp
          refine (has_sy HD.out HM3.out.sy (A.frN_lt ez mz n7)).mono ?_
          rintro r4 w4 ⟨rfl, hb4⟩
          have g4 : w4.cell? ⟨p, 0, none⟩ = some (.pointer (some ⟨s, 0, none⟩)) ∧ w4.cell? ⟨p, 2, none⟩ = some (.int .u8 (A.so : Int)) ∧ w4.cell? ⟨w.heap.size + 1, 0, none⟩ = some (.int .u32 e) ∧ w4.cell? ⟨w.heap.size + 1, 1, none⟩ = some (.int .u32 m) ∧ w4.cell? ⟨b7, 0, none⟩ = some (.int .u32 ez) ∧ w4.cell? ⟨b7, 1, none⟩ = some (.int .u32 mz) := ⟨kcell hb4 g3.1, kcell hb4 g3.2.1, kcell hb4 g3.2.2.1, kcell hb4 g3.2.2.2.1, kcell hb4 g3.2.2.2.2.1, kcell hb4 g3.2.2.2.2.2⟩
          have HM4 : Hid (Cm w w4 p s D A e m b7 ez mz) := HM3.out.later hb4
          clear hb4 HM3
          refine hK.out _ _ g4 (fun hHeld => ?_)
          clear hK K
          refine wpAnyH_done (by kernel_rfl) ?_ _
          clear hHeld g3
          rw [HVh.out]
          cases vh with
          | true =>
            have r1 := HM4.out.cm.r1
            have b70 := g4.2.2.2.2.1
            have b71 := g4.2.2.2.2.2
            have HX : Hid (Cn w (w4.setRow (w.heap.size + 1) #[.int .u32 ez, .int .u32 mz]) ez mz) := HM4.out.cm.set1 ez mz
            clear HM4 g4
            have hq2 := q2z
            have hall : (#[Value.int .u32 ez, .int .u32 mz]).all (·.oneCell') = true := by simp [Value.oneCell']
            go_wp2_with (refine wpList_store_row rfl 38 _ _ rfl (w.heap.size + 1) #[.int .u32 ez, .int .u32 mz] rfl rfl 38 _ r1 hq2 rfl hall ?_)
            go_roundw
            case rel => exact ⟨k + 1, ez, mz, true, by omega, HCy.out rfl, rfl, by simp, HX⟩
            case measure => simp [intOf]; omega
          | false =>
            go_wp2
            go_roundw
            case rel => exact ⟨k + 1, e, m, false, by omega, HCn.out rfl, rfl, by simp, HM4.out.cm⟩
            case measure => simp [intOf]; omega
        | true =>
          by_cases hc : zcmp ez mz e m ≤ 0
          · have HCs : Hid (A.com D (k + 1) = (true, e, m)) := by show _ = _; rw [sC.out, if_pos (.inr ⟨rfl, hc⟩)]
            clear hb sC
            go_upto_region 9 with fail
            rw [HB7.out]
            clear HB7 ce cm
            refine wp_region_held_drew (S := (fun W => W.cell? ⟨p, 0, none⟩ = some (.pointer (some ⟨s, 0, none⟩)) ∧ W.cell? ⟨p, 2, none⟩ = some (.int .u8 (A.so : Int)) ∧ W.cell? ⟨w.heap.size + 1, 0, none⟩ = some (.int .u32 e) ∧ W.cell? ⟨w.heap.size + 1, 1, none⟩ = some (.int .u32 m) ∧ W.cell? ⟨b7, 0, none⟩ = some (.int .u32 ez) ∧ W.cell? ⟨b7, 1, none⟩ = some (.int .u32 mz))) (by kernel_rfl) ?_ (fun hHeld => ?_)
            · exact g1
            refine wpAnyH_take (i := 0) (oi := { dst := some 25, op := Op.move (Operand.tmp 0), type := 33, pos := "acks.go:53", after := #[], guard := none }) (v := ?_) rfl (by kernel_rfl) (by kernel_rfl) (by kernel_rfl) (fun _ _ _ h => h) (Or.inl ⟨by rfl, ?_⟩) (by assumption) ?_
            rotate_left
            · (intro w hSw; (try dsimp only at hSw); go_simp) <;> with_reducible rfl
            try simp only [Act.put, List.setIfInBounds_toArray, List.set_cons_zero, List.set_cons_succ]
            refine wpAnyH_take (i := 1) (oi := { dst := some 26, op := Op.nilCheck (Operand.tmp 25), type := 0, pos := "acks.go:53", after := #[{ on := 0, ground := Ground.data }], guard := none }) (v := ?_) rfl (by kernel_rfl) (by kernel_rfl) (by kernel_rfl) (fun _ _ _ h => h) (Or.inl ⟨by rfl, ?_⟩) (by assumption) ?_
            rotate_left
            · (intro w hSw; (try dsimp only at hSw); go_simp) <;> with_reducible rfl
            try simp only [Act.put, List.setIfInBounds_toArray, List.set_cons_zero, List.set_cons_succ]
            refine wpAnyH_take (i := 2) (oi := { dst := some 27, op := Op.fieldAddr 41 (Operand.tmp 26) 2, type := 0, pos := "acks.go:53", after := #[{ on := 1, ground := Ground.data }], guard := none }) (v := ?_) rfl (by kernel_rfl) (by kernel_rfl) (by kernel_rfl) (fun _ _ _ h => h) (Or.inl ⟨by rfl, ?_⟩) (by assumption) ?_
            rotate_left
            · (intro w hSw; (try dsimp only at hSw); go_simp) <;> with_reducible rfl
            try simp only [Act.put, List.setIfInBounds_toArray, List.set_cons_zero, List.set_cons_succ]
            refine wpAnyH_take (i := 3) (oi := { dst := some 28, op := Op.load 5 (Operand.tmp 27), type := 5, pos := "acks.go:53", after := #[{ on := 2, ground := Ground.data }], guard := none }) (v := ?_) rfl (by kernel_rfl) (by kernel_rfl) (by kernel_rfl) (fun _ _ _ h => h) (Or.inl ⟨by rfl, ?_⟩) (by assumption) ?_
            rotate_left
            · (intro w hSw; (try dsimp only at hSw); go_simp) <;> with_reducible rfl
            try simp only [Act.put, List.setIfInBounds_toArray, List.set_cons_zero, List.set_cons_succ]
            refine wpAnyH_take (i := 4) (oi := { dst := some 29, op := Op.move (Operand.tmp 6), type := 3, pos := "acks.go:53", after := #[], guard := none }) (v := ?_) rfl (by kernel_rfl) (by kernel_rfl) (by kernel_rfl) (fun _ _ _ h => h) (Or.inl ⟨by rfl, ?_⟩) (by assumption) ?_
            rotate_left
            · (intro w hSw; (try dsimp only at hSw); go_simp) <;> with_reducible rfl
            try simp only [Act.put, List.setIfInBounds_toArray, List.set_cons_zero, List.set_cons_succ]
            refine wpAnyH_ready (rs := [5]) (by kernel_rfl) (by simp) ?_
            refine AllReadyH.cons (o := { dst := some 30, op := Op.call { callee := Callee.value (Operand.func 34), args := #[Operand.tmp 29], argTypes := #[3] }, type := 5, pos := "acks.go:53", after := #[{ on := 4, ground := Ground.data }], guard := none }) rfl (fun K hK => ?_) AllReadyH.nil
            go_simp
            refine (bit_any hk8 _).mono ?_
            rintro r1 w1 ⟨rfl, rfl⟩
            refine hK.out _ _ g1 (fun hHeld => ?_)
            clear hK K
            refine wpAnyH_take (i := 6) (oi := { dst := some 31, op := Op.binOp BinOp.and 5 (Operand.tmp 28) (Operand.tmp 30) 5, type := 5, pos := "acks.go:53", after := #[{ on := 3, ground := Ground.data }, { on := 5, ground := Ground.data }], guard := none }) (v := ?_) rfl (by kernel_rfl) (by kernel_rfl) (by kernel_rfl) (fun _ _ _ h => h) (Or.inl ⟨by rfl, ?_⟩) (by assumption) ?_
            rotate_left
            · (intro w hSw; (try dsimp only at hSw); go_simp) <;> with_reducible rfl
            try simp only [Act.put, List.setIfInBounds_toArray, List.set_cons_zero, List.set_cons_succ]
            refine wpAnyH_take (i := 7) (oi := { dst := some 32, op := Op.binOp BinOp.eql 5 (Operand.tmp 31) (Operand.const (Value.int IntKind.u8 0)) 5, type := 4, pos := "acks.go:53", after := #[{ on := 6, ground := Ground.data }], guard := none }) (v := ?_) rfl (by kernel_rfl) (by kernel_rfl) (by kernel_rfl) (fun _ _ _ h => h) (Or.inl ⟨by rfl, ?_⟩) (by assumption) ?_
            rotate_left
            · (intro w hSw; (try dsimp only at hSw); go_simp) <;> with_reducible rfl
            try simp only [Act.put, List.setIfInBounds_toArray, List.set_cons_zero, List.set_cons_succ]
            refine wpAnyH_take (i := 8) (oi := { dst := some 33, op := Op.move (Operand.tmp 32), type := 4, pos := "acks.go:53", after := #[{ on := 7, ground := Ground.data }, { on := 5, ground := Ground.chain }], guard := none }) (v := ?_) rfl (by kernel_rfl) (by kernel_rfl) (by kernel_rfl) (fun _ _ _ h => h) (Or.inl ⟨by rfl, ?_⟩) (by assumption) ?_
            rotate_left
            · (intro w hSw; (try dsimp only at hSw); go_simp) <;> with_reducible rfl
            try simp only [Act.put, List.setIfInBounds_toArray, List.set_cons_zero, List.set_cons_succ]
            refine wpAnyH_take (i := 9) (oi := { dst := some 34, op := Op.move (Operand.tmp 5), type := 4, pos := "acks.go:53", after := #[{ on := 8, ground := Ground.guard }], guard := some (8, false) }) (v := ?_) rfl (by kernel_rfl) (by kernel_rfl) (by kernel_rfl) (fun _ _ _ h => h) (Or.inl ⟨by rfl, ?_⟩) (by assumption) ?_
            rotate_left
            · (intro w hSw; (try dsimp only at hSw); go_simp) <;> with_reducible rfl
            try simp only [Act.put, List.setIfInBounds_toArray, List.set_cons_zero, List.set_cons_succ]
            refine wpAnyH_take (i := 10) (oi := { dst := some 35, op := Op.move (Operand.tmp 34), type := 4, pos := "acks.go:53", after := #[{ on := 9, ground := Ground.data }, { on := 8, ground := Ground.chain }, { on := 8, ground := Ground.guard }], guard := some (8, false) }) (v := ?_) rfl (by kernel_rfl) (by kernel_rfl) (by kernel_rfl) (fun _ _ _ h => h) (Or.inl ⟨by rfl, ?_⟩) (by assumption) ?_
            rotate_left
            · (intro w hSw; (try dsimp only at hSw); go_simp) <;> with_reducible rfl
            try simp only [Act.put, List.setIfInBounds_toArray, List.set_cons_zero, List.set_cons_succ]
            refine wpAnyH_take (i := 11) (oi := { dst := some 36, op := Op.load 38 (Operand.tmp 7), type := 38, pos := "acks.go:53", after := #[{ on := 10, ground := Ground.guard }], guard := some (10, true) }) (v := ?_) rfl (by kernel_rfl) (by kernel_rfl) (by kernel_rfl) (fun _ _ _ h => h) (Or.inl ⟨by rfl, ?_⟩) (by assumption) ?_
            rotate_left
            · (intro w hSw; (try dsimp only at hSw); go_simp) <;> with_reducible rfl
            try simp only [Act.put, List.setIfInBounds_toArray, List.set_cons_zero, List.set_cons_succ]
            refine wpAnyH_take (i := 12) (oi := { dst := some 37, op := Op.load 38 (Operand.tmp 4), type := 38, pos := "acks.go:53", after := #[{ on := 10, ground := Ground.guard }], guard := some (10, true) }) (v := ?_) rfl (by kernel_rfl) (by kernel_rfl) (by kernel_rfl) (fun _ _ _ h => h) (Or.inl ⟨by rfl, ?_⟩) (by assumption) ?_
            rotate_left
            · (intro w hSw; (try dsimp only at hSw); go_simp) <;> with_reducible rfl
            try simp only [Act.put, List.setIfInBounds_toArray, List.set_cons_zero, List.set_cons_succ]
            refine wpAnyH_ready (rs := [13]) (by kernel_rfl) (by simp) ?_
            refine AllReadyH.cons (o := { dst := some 38, op := Op.call { callee := Callee.value (Operand.func 35), args := #[Operand.tmp 36, Operand.tmp 37], argTypes := #[38, 38] }, type := 3, pos := "acks.go:53", after := #[{ on := 11, ground := Ground.data }, { on := 12, ground := Ground.data }, { on := 10, ground := Ground.chain }, { on := 10, ground := Ground.guard }], guard := some (10, true) }) rfl (fun K hK => ?_) AllReadyH.nil
            go_simp
            refine (compare_any _ _ _ _ _).mono ?_
            rintro r2 w2 ⟨rfl, hb2⟩
            have g2 : w2.cell? ⟨p, 0, none⟩ = some (.pointer (some ⟨s, 0, none⟩)) ∧ w2.cell? ⟨p, 2, none⟩ = some (.int .u8 (A.so : Int)) ∧ w2.cell? ⟨w.heap.size + 1, 0, none⟩ = some (.int .u32 e) ∧ w2.cell? ⟨w.heap.size + 1, 1, none⟩ = some (.int .u32 m) ∧ w2.cell? ⟨b7, 0, none⟩ = some (.int .u32 ez) ∧ w2.cell? ⟨b7, 1, none⟩ = some (.int .u32 mz) := ⟨kcell hb2 g1.1, kcell hb2 g1.2.1, kcell hb2 g1.2.2.1, kcell hb2 g1.2.2.2.1, kcell hb2 g1.2.2.2.2.1, kcell hb2 g1.2.2.2.2.2⟩
            have HM2 : Hid (Cm w w2 p s D A e m b7 ez mz) := HM1.out.drew.later hb2
            clear hb2
            refine hK.out _ _ g2 (fun hHeld => ?_)
            clear hK K
            refine wpAnyH_take (i := 14) (oi := { dst := some 39, op := Op.binOp BinOp.leq 3 (Operand.tmp 38) (Operand.const (Value.int IntKind.i64 0)) 3, type := 4, pos := "acks.go:53", after := #[{ on := 13, ground := Ground.data }, { on := 10, ground := Ground.guard }], guard := some (10, true) }) (v := ?_) rfl (by kernel_rfl) (by kernel_rfl) (by kernel_rfl) (fun _ _ _ h => h) (Or.inl ⟨by rfl, ?_⟩) (by assumption) ?_
            rotate_left
            · (intro w hSw; (try dsimp only at hSw); go_simp) <;> with_reducible rfl
            try simp only [Act.put, List.setIfInBounds_toArray, List.set_cons_zero, List.set_cons_succ]
            refine wpAnyH_take (i := 15) (oi := { dst := some 40, op := Op.pick (Operand.tmp 35) (Operand.tmp 39) (Operand.const (Value.bool false)), type := 4, pos := "acks.go:53", after := #[{ on := 10, ground := Ground.data }, { on := 14, ground := Ground.data }, { on := 8, ground := Ground.guard }], guard := some (8, false) }) (v := ?_) rfl (by kernel_rfl) (by kernel_rfl) (by kernel_rfl) (fun _ _ _ h => h) (Or.inl ⟨by rfl, ?_⟩) (by assumption) ?_
            rotate_left
            · (intro w hSw; (try dsimp only at hSw); go_simp) <;> with_reducible rfl
            try simp only [Act.put, List.setIfInBounds_toArray, List.set_cons_zero, List.set_cons_succ]
            refine wpAnyH_take (i := 16) (oi := { dst := some 41, op := Op.pick (Operand.tmp 33) (Operand.const (Value.bool true)) (Operand.tmp 40), type := 4, pos := "acks.go:53", after := #[{ on := 8, ground := Ground.data }, { on := 15, ground := Ground.data }], guard := none }) (v := ?_) rfl (by kernel_rfl) (by kernel_rfl) (by kernel_rfl) (fun _ _ _ h => h) (Or.inl ⟨by rfl, ?_⟩) (by assumption) ?_
            rotate_left
            · (intro w hSw; (try dsimp only at hSw); go_simp) <;> with_reducible rfl
            try simp only [Act.put, List.setIfInBounds_toArray, List.set_cons_zero, List.set_cons_succ]
            refine wpAnyH_done (by kernel_rfl) ?_ _
            clear hHeld
            go_wp2
            go_roundw
            case rel => exact ⟨k + 1, e, m, true, by omega, HCs.out, rfl, by simp, HM2.out.cm⟩
            case measure => simp [intOf]; omega
          · have HCn : Hid (vh = false → A.com D (k + 1) = (true, e, m)) := fun q => by rw [sC.out, hb, q, if_neg (by simp; omega), if_neg (by simp)]
            have HCy : Hid (vh = true → A.com D (k + 1) = (true, ez, mz)) := fun q => by rw [sC.out, hb, q, if_neg (by simp; omega), if_pos rfl]
            clear hb sC
            go_upto_region 9 with fail
            rw [HB7.out]
            clear HB7 ce cm
            refine wp_region_held_drew (S := (fun W => W.cell? ⟨p, 0, none⟩ = some (.pointer (some ⟨s, 0, none⟩)) ∧ W.cell? ⟨p, 2, none⟩ = some (.int .u8 (A.so : Int)) ∧ W.cell? ⟨w.heap.size + 1, 0, none⟩ = some (.int .u32 e) ∧ W.cell? ⟨w.heap.size + 1, 1, none⟩ = some (.int .u32 m) ∧ W.cell? ⟨b7, 0, none⟩ = some (.int .u32 ez) ∧ W.cell? ⟨b7, 1, none⟩ = some (.int .u32 mz))) (by kernel_rfl) ?_ (fun hHeld => ?_)
            · exact g1
            refine wpAnyH_take (i := 0) (oi := { dst := some 25, op := Op.move (Operand.tmp 0), type := 33, pos := "acks.go:53", after := #[], guard := none }) (v := ?_) rfl (by kernel_rfl) (by kernel_rfl) (by kernel_rfl) (fun _ _ _ h => h) (Or.inl ⟨by rfl, ?_⟩) (by assumption) ?_
            rotate_left
            · (intro w hSw; (try dsimp only at hSw); go_simp) <;> with_reducible rfl
            try simp only [Act.put, List.setIfInBounds_toArray, List.set_cons_zero, List.set_cons_succ]
            refine wpAnyH_take (i := 1) (oi := { dst := some 26, op := Op.nilCheck (Operand.tmp 25), type := 0, pos := "acks.go:53", after := #[{ on := 0, ground := Ground.data }], guard := none }) (v := ?_) rfl (by kernel_rfl) (by kernel_rfl) (by kernel_rfl) (fun _ _ _ h => h) (Or.inl ⟨by rfl, ?_⟩) (by assumption) ?_
            rotate_left
            · (intro w hSw; (try dsimp only at hSw); go_simp) <;> with_reducible rfl
            try simp only [Act.put, List.setIfInBounds_toArray, List.set_cons_zero, List.set_cons_succ]
            refine wpAnyH_take (i := 2) (oi := { dst := some 27, op := Op.fieldAddr 41 (Operand.tmp 26) 2, type := 0, pos := "acks.go:53", after := #[{ on := 1, ground := Ground.data }], guard := none }) (v := ?_) rfl (by kernel_rfl) (by kernel_rfl) (by kernel_rfl) (fun _ _ _ h => h) (Or.inl ⟨by rfl, ?_⟩) (by assumption) ?_
            rotate_left
            · (intro w hSw; (try dsimp only at hSw); go_simp) <;> with_reducible rfl
            try simp only [Act.put, List.setIfInBounds_toArray, List.set_cons_zero, List.set_cons_succ]
            refine wpAnyH_take (i := 3) (oi := { dst := some 28, op := Op.load 5 (Operand.tmp 27), type := 5, pos := "acks.go:53", after := #[{ on := 2, ground := Ground.data }], guard := none }) (v := ?_) rfl (by kernel_rfl) (by kernel_rfl) (by kernel_rfl) (fun _ _ _ h => h) (Or.inl ⟨by rfl, ?_⟩) (by assumption) ?_
            rotate_left
            · (intro w hSw; (try dsimp only at hSw); go_simp) <;> with_reducible rfl
            try simp only [Act.put, List.setIfInBounds_toArray, List.set_cons_zero, List.set_cons_succ]
            refine wpAnyH_take (i := 4) (oi := { dst := some 29, op := Op.move (Operand.tmp 6), type := 3, pos := "acks.go:53", after := #[], guard := none }) (v := ?_) rfl (by kernel_rfl) (by kernel_rfl) (by kernel_rfl) (fun _ _ _ h => h) (Or.inl ⟨by rfl, ?_⟩) (by assumption) ?_
            rotate_left
            · (intro w hSw; (try dsimp only at hSw); go_simp) <;> with_reducible rfl
            try simp only [Act.put, List.setIfInBounds_toArray, List.set_cons_zero, List.set_cons_succ]
            refine wpAnyH_ready (rs := [5]) (by kernel_rfl) (by simp) ?_
            refine AllReadyH.cons (o := { dst := some 30, op := Op.call { callee := Callee.value (Operand.func 34), args := #[Operand.tmp 29], argTypes := #[3] }, type := 5, pos := "acks.go:53", after := #[{ on := 4, ground := Ground.data }], guard := none }) rfl (fun K hK => ?_) AllReadyH.nil
            go_simp
            refine (bit_any hk8 _).mono ?_
            rintro r1 w1 ⟨rfl, rfl⟩
            refine hK.out _ _ g1 (fun hHeld => ?_)
            clear hK K
            refine wpAnyH_take (i := 6) (oi := { dst := some 31, op := Op.binOp BinOp.and 5 (Operand.tmp 28) (Operand.tmp 30) 5, type := 5, pos := "acks.go:53", after := #[{ on := 3, ground := Ground.data }, { on := 5, ground := Ground.data }], guard := none }) (v := ?_) rfl (by kernel_rfl) (by kernel_rfl) (by kernel_rfl) (fun _ _ _ h => h) (Or.inl ⟨by rfl, ?_⟩) (by assumption) ?_
            rotate_left
            · (intro w hSw; (try dsimp only at hSw); go_simp) <;> with_reducible rfl
            try simp only [Act.put, List.setIfInBounds_toArray, List.set_cons_zero, List.set_cons_succ]
            refine wpAnyH_take (i := 7) (oi := { dst := some 32, op := Op.binOp BinOp.eql 5 (Operand.tmp 31) (Operand.const (Value.int IntKind.u8 0)) 5, type := 4, pos := "acks.go:53", after := #[{ on := 6, ground := Ground.data }], guard := none }) (v := ?_) rfl (by kernel_rfl) (by kernel_rfl) (by kernel_rfl) (fun _ _ _ h => h) (Or.inl ⟨by rfl, ?_⟩) (by assumption) ?_
            rotate_left
            · (intro w hSw; (try dsimp only at hSw); go_simp) <;> with_reducible rfl
            try simp only [Act.put, List.setIfInBounds_toArray, List.set_cons_zero, List.set_cons_succ]
            refine wpAnyH_take (i := 8) (oi := { dst := some 33, op := Op.move (Operand.tmp 32), type := 4, pos := "acks.go:53", after := #[{ on := 7, ground := Ground.data }, { on := 5, ground := Ground.chain }], guard := none }) (v := ?_) rfl (by kernel_rfl) (by kernel_rfl) (by kernel_rfl) (fun _ _ _ h => h) (Or.inl ⟨by rfl, ?_⟩) (by assumption) ?_
            rotate_left
            · (intro w hSw; (try dsimp only at hSw); go_simp) <;> with_reducible rfl
            try simp only [Act.put, List.setIfInBounds_toArray, List.set_cons_zero, List.set_cons_succ]
            refine wpAnyH_take (i := 9) (oi := { dst := some 34, op := Op.move (Operand.tmp 5), type := 4, pos := "acks.go:53", after := #[{ on := 8, ground := Ground.guard }], guard := some (8, false) }) (v := ?_) rfl (by kernel_rfl) (by kernel_rfl) (by kernel_rfl) (fun _ _ _ h => h) (Or.inl ⟨by rfl, ?_⟩) (by assumption) ?_
            rotate_left
            · (intro w hSw; (try dsimp only at hSw); go_simp) <;> with_reducible rfl
            try simp only [Act.put, List.setIfInBounds_toArray, List.set_cons_zero, List.set_cons_succ]
            refine wpAnyH_take (i := 10) (oi := { dst := some 35, op := Op.move (Operand.tmp 34), type := 4, pos := "acks.go:53", after := #[{ on := 9, ground := Ground.data }, { on := 8, ground := Ground.chain }, { on := 8, ground := Ground.guard }], guard := some (8, false) }) (v := ?_) rfl (by kernel_rfl) (by kernel_rfl) (by kernel_rfl) (fun _ _ _ h => h) (Or.inl ⟨by rfl, ?_⟩) (by assumption) ?_
            rotate_left
            · (intro w hSw; (try dsimp only at hSw); go_simp) <;> with_reducible rfl
            try simp only [Act.put, List.setIfInBounds_toArray, List.set_cons_zero, List.set_cons_succ]
            refine wpAnyH_take (i := 11) (oi := { dst := some 36, op := Op.load 38 (Operand.tmp 7), type := 38, pos := "acks.go:53", after := #[{ on := 10, ground := Ground.guard }], guard := some (10, true) }) (v := ?_) rfl (by kernel_rfl) (by kernel_rfl) (by kernel_rfl) (fun _ _ _ h => h) (Or.inl ⟨by rfl, ?_⟩) (by assumption) ?_
            rotate_left
            · (intro w hSw; (try dsimp only at hSw); go_simp) <;> with_reducible rfl
            try simp only [Act.put, List.setIfInBounds_toArray, List.set_cons_zero, List.set_cons_succ]
            refine wpAnyH_take (i := 12) (oi := { dst := some 37, op := Op.load 38 (Operand.tmp 4), type := 38, pos := "acks.go:53", after := #[{ on := 10, ground := Ground.guard }], guard := some (10, true) }) (v := ?_) rfl (by kernel_rfl) (by kernel_rfl) (by kernel_rfl) (fun _ _ _ h => h) (Or.inl ⟨by rfl, ?_⟩) (by assumption) ?_
            rotate_left
            · (intro w hSw; (try dsimp only at hSw); go_simp) <;> with_reducible rfl
            try simp only [Act.put, List.setIfInBounds_toArray, List.set_cons_zero, List.set_cons_succ]
            refine wpAnyH_ready (rs := [13]) (by kernel_rfl) (by simp) ?_
            refine AllReadyH.cons (o := { dst := some 38, op := Op.call { callee := Callee.value (Operand.func 35), args := #[Operand.tmp 36, Operand.tmp 37], argTypes := #[38, 38] }, type := 3, pos := "acks.go:53", after := #[{ on := 11, ground := Ground.data }, { on := 12, ground := Ground.data }, { on := 10, ground := Ground.chain }, { on := 10, ground := Ground.guard }], guard := some (10, true) }) rfl (fun K hK => ?_) AllReadyH.nil
            go_simp
            refine (compare_any _ _ _ _ _).mono ?_
            rintro r2 w2 ⟨rfl, hb2⟩
            have g2 : w2.cell? ⟨p, 0, none⟩ = some (.pointer (some ⟨s, 0, none⟩)) ∧ w2.cell? ⟨p, 2, none⟩ = some (.int .u8 (A.so : Int)) ∧ w2.cell? ⟨w.heap.size + 1, 0, none⟩ = some (.int .u32 e) ∧ w2.cell? ⟨w.heap.size + 1, 1, none⟩ = some (.int .u32 m) ∧ w2.cell? ⟨b7, 0, none⟩ = some (.int .u32 ez) ∧ w2.cell? ⟨b7, 1, none⟩ = some (.int .u32 mz) := ⟨kcell hb2 g1.1, kcell hb2 g1.2.1, kcell hb2 g1.2.2.1, kcell hb2 g1.2.2.2.1, kcell hb2 g1.2.2.2.2.1, kcell hb2 g1.2.2.2.2.2⟩
            have HM2 : Hid (Cm w w2 p s D A e m b7 ez mz) := HM1.out.drew.later hb2
            clear hb2
            refine hK.out _ _ g2 (fun hHeld => ?_)
            clear hK K
            refine wpAnyH_take (i := 14) (oi := { dst := some 39, op := Op.binOp BinOp.leq 3 (Operand.tmp 38) (Operand.const (Value.int IntKind.i64 0)) 3, type := 4, pos := "acks.go:53", after := #[{ on := 13, ground := Ground.data }, { on := 10, ground := Ground.guard }], guard := some (10, true) }) (v := ?_) rfl (by kernel_rfl) (by kernel_rfl) (by kernel_rfl) (fun _ _ _ h => h) (Or.inl ⟨by rfl, ?_⟩) (by assumption) ?_
            rotate_left
            · (intro w hSw; (try dsimp only at hSw); go_simp) <;> with_reducible rfl
            try simp only [Act.put, List.setIfInBounds_toArray, List.set_cons_zero, List.set_cons_succ]
            refine wpAnyH_take (i := 15) (oi := { dst := some 40, op := Op.pick (Operand.tmp 35) (Operand.tmp 39) (Operand.const (Value.bool false)), type := 4, pos := "acks.go:53", after := #[{ on := 10, ground := Ground.data }, { on := 14, ground := Ground.data }, { on := 8, ground := Ground.guard }], guard := some (8, false) }) (v := ?_) rfl (by kernel_rfl) (by kernel_rfl) (by kernel_rfl) (fun _ _ _ h => h) (Or.inl ⟨by rfl, ?_⟩) (by assumption) ?_
            rotate_left
            · (intro w hSw; (try dsimp only at hSw); go_simp) <;> with_reducible rfl
            try simp only [Act.put, List.setIfInBounds_toArray, List.set_cons_zero, List.set_cons_succ]
            refine wpAnyH_take (i := 16) (oi := { dst := some 41, op := Op.pick (Operand.tmp 33) (Operand.const (Value.bool true)) (Operand.tmp 40), type := 4, pos := "acks.go:53", after := #[{ on := 8, ground := Ground.data }, { on := 15, ground := Ground.data }], guard := none }) (v := ?_) rfl (by kernel_rfl) (by kernel_rfl) (by kernel_rfl) (fun _ _ _ h => h) (Or.inl ⟨by rfl, ?_⟩) (by assumption) ?_
            rotate_left
            · (intro w hSw; (try dsimp only at hSw); go_simp) <;> with_reducible rfl
            try simp only [Act.put, List.setIfInBounds_toArray, List.set_cons_zero, List.set_cons_succ]
            refine wpAnyH_done (by kernel_rfl) ?_ _
            clear hHeld
            go_wp2_with fail
            refine wp_region_held_drew (S := (fun W => W.cell? ⟨p, 0, none⟩ = some (.pointer (some ⟨s, 0, none⟩)) ∧ W.cell? ⟨p, 2, none⟩ = some (.int .u8 (A.so : Int)) ∧ W.cell? ⟨w.heap.size + 1, 0, none⟩ = some (.int .u32 e) ∧ W.cell? ⟨w.heap.size + 1, 1, none⟩ = some (.int .u32 m) ∧ W.cell? ⟨b7, 0, none⟩ = some (.int .u32 ez) ∧ W.cell? ⟨b7, 1, none⟩ = some (.int .u32 mz))) (by kernel_rfl) ?_ (fun hHeld => ?_)
            · exact g2
            refine wpAnyH_take (i := 0) (oi := { dst := some 42, op := Op.move (Operand.tmp 0), type := 33, pos := "acks.go:56", after := #[], guard := none }) (v := ?_) rfl (by kernel_rfl) (by kernel_rfl) (by kernel_rfl) (fun _ _ _ h => h) (Or.inl ⟨by rfl, ?_⟩) (by assumption) ?_
            rotate_left
            · (intro w hSw; (try dsimp only at hSw); go_simp) <;> with_reducible rfl
            try simp only [Act.put, List.setIfInBounds_toArray, List.set_cons_zero, List.set_cons_succ]
            refine wpAnyH_take (i := 1) (oi := { dst := some 43, op := Op.nilCheck (Operand.tmp 42), type := 0, pos := "acks.go:56", after := #[{ on := 0, ground := Ground.data }], guard := none }) (v := ?_) rfl (by kernel_rfl) (by kernel_rfl) (by kernel_rfl) (fun _ _ _ h => h) (Or.inl ⟨by rfl, ?_⟩) (by assumption) ?_
            rotate_left
            · (intro w hSw; (try dsimp only at hSw); go_simp) <;> with_reducible rfl
            try simp only [Act.put, List.setIfInBounds_toArray, List.set_cons_zero, List.set_cons_succ]
            refine wpAnyH_take (i := 2) (oi := { dst := some 44, op := Op.fieldAddr 41 (Operand.tmp 43) 0, type := 0, pos := "acks.go:56", after := #[{ on := 1, ground := Ground.data }], guard := none }) (v := ?_) rfl (by kernel_rfl) (by kernel_rfl) (by kernel_rfl) (fun _ _ _ h => h) (Or.inl ⟨by rfl, ?_⟩) (by assumption) ?_
            rotate_left
            · (intro w hSw; (try dsimp only at hSw); go_simp) <;> with_reducible rfl
            try simp only [Act.put, List.setIfInBounds_toArray, List.set_cons_zero, List.set_cons_succ]
            refine wpAnyH_take (i := 3) (oi := { dst := some 45, op := Op.load 25 (Operand.tmp 44), type := 25, pos := "acks.go:56", after := #[{ on := 2, ground := Ground.data }], guard := none }) (v := ?_) rfl (by kernel_rfl) (by kernel_rfl) (by kernel_rfl) (fun _ _ _ h => h) (Or.inl ⟨by rfl, ?_⟩) (by assumption) ?_
            rotate_left
            · (intro w hSw; (try dsimp only at hSw); go_simp) <;> with_reducible rfl
            try simp only [Act.put, List.setIfInBounds_toArray, List.set_cons_zero, List.set_cons_succ]
            refine wpAnyH_take (i := 4) (oi := { dst := some 46, op := Op.move (Operand.tmp 0), type := 33, pos := "acks.go:56", after := #[], guard := none }) (v := ?_) rfl (by kernel_rfl) (by kernel_rfl) (by kernel_rfl) (fun _ _ _ h => h) (Or.inl ⟨by rfl, ?_⟩) (by assumption) ?_
            rotate_left
            · (intro w hSw; (try dsimp only at hSw); go_simp) <;> with_reducible rfl
            try simp only [Act.put, List.setIfInBounds_toArray, List.set_cons_zero, List.set_cons_succ]
            refine wpAnyH_take (i := 5) (oi := { dst := some 47, op := Op.load 38 (Operand.tmp 7), type := 38, pos := "acks.go:56", after := #[], guard := none }) (v := ?_) rfl (by kernel_rfl) (by kernel_rfl) (by kernel_rfl) (fun _ _ _ h => h) (Or.inl ⟨by rfl, ?_⟩) (by assumption) ?_
            rotate_left
            · (intro w hSw; (try dsimp only at hSw); go_simp) <;> with_reducible rfl
            try simp only [Act.put, List.setIfInBounds_toArray, List.set_cons_zero, List.set_cons_succ]
            refine wpAnyH_ready (rs := [6]) (by kernel_rfl) (by simp) ?_
            refine AllReadyH.cons (o := { dst := some 48, op := Op.call { callee := Callee.value (Operand.func 36), args := #[Operand.tmp 46, Operand.tmp 47], argTypes := #[33, 38] }, type := 5, pos := "acks.go:56", after := #[{ on := 4, ground := Ground.data }, { on := 5, ground := Ground.data }], guard := none }) rfl (fun K hK => ?_) AllReadyH.nil
            go_simp
            refine (from_any HD.out HM2.out.drew.sy HM2.out.drew.ac hs ez mz).mono ?_
            rintro r3 w3 ⟨rfl, hb3⟩
            have g3 : w3.cell? ⟨p, 0, none⟩ = some (.pointer (some ⟨s, 0, none⟩)) ∧ w3.cell? ⟨p, 2, none⟩ = some (.int .u8 (A.so : Int)) ∧ w3.cell? ⟨w.heap.size + 1, 0, none⟩ = some (.int .u32 e) ∧ w3.cell? ⟨w.heap.size + 1, 1, none⟩ = some (.int .u32 m) ∧ w3.cell? ⟨b7, 0, none⟩ = some (.int .u32 ez) ∧ w3.cell? ⟨b7, 1, none⟩ = some (.int .u32 mz) := ⟨kcell hb3 g2.1, kcell hb3 g2.2.1, kcell hb3 g2.2.2.1, kcell hb3 g2.2.2.2.1, kcell hb3 g2.2.2.2.2.1, kcell hb3 g2.2.2.2.2.2⟩
            have HM3 : Hid (Cm w w3 p s D A e m b7 ez mz) := HM2.out.drew.later hb3
            clear hb3
            refine hK.out _ _ g3 (fun hHeld => ?_)
            clear hK K
            refine wpAnyH_ready (rs := [7]) (by kernel_rfl) (by simp) ?_
            refine AllReadyH.cons (o := { dst := some 49, op := Op.call { callee := Callee.value (Operand.func 22), args := #[Operand.tmp 45, Operand.tmp 48], argTypes := #[25, 5] }, type := 4, pos := "acks.go:56", after := #[{ on := 3, ground := Ground.data }, { on := 6, ground := Ground.data }, { on := 6, ground := Ground.chain }], guard := none }) rfl (fun K hK => ?_) AllReadyH.nil
            go_simp
            refine (has_sy HD.out HM3.out.sy (A.frN_lt ez mz n7)).mono ?_
            rintro r4 w4 ⟨rfl, hb4⟩
            have g4 : w4.cell? ⟨p, 0, none⟩ = some (.pointer (some ⟨s, 0, none⟩)) ∧ w4.cell? ⟨p, 2, none⟩ = some (.int .u8 (A.so : Int)) ∧ w4.cell? ⟨w.heap.size + 1, 0, none⟩ = some (.int .u32 e) ∧ w4.cell? ⟨w.heap.size + 1, 1, none⟩ = some (.int .u32 m) ∧ w4.cell? ⟨b7, 0, none⟩ = some (.int .u32 ez) ∧ w4.cell? ⟨b7, 1, none⟩ = some (.int .u32 mz) := ⟨kcell hb4 g3.1, kcell hb4 g3.2.1, kcell hb4 g3.2.2.1, kcell hb4 g3.2.2.2.1, kcell hb4 g3.2.2.2.2.1, kcell hb4 g3.2.2.2.2.2⟩
            have HM4 : Hid (Cm w w4 p s D A e m b7 ez mz) := HM3.out.later hb4
            clear hb4 HM3
            refine hK.out _ _ g4 (fun hHeld => ?_)
            clear hK K
            refine wpAnyH_done (by kernel_rfl) ?_ _
            clear hHeld g3
            rw [HVh.out]
            cases vh with
            | true =>
              have r1 := HM4.out.cm.r1
              have b70 := g4.2.2.2.2.1
              have b71 := g4.2.2.2.2.2
              have HX : Hid (Cn w (w4.setRow (w.heap.size + 1) #[.int .u32 ez, .int .u32 mz]) ez mz) := HM4.out.cm.set1 ez mz
              clear HM4 g4
              have hq2 := q2z
              have hall : (#[Value.int .u32 ez, .int .u32 mz]).all (·.oneCell') = true := by simp [Value.oneCell']
              go_wp2_with (refine wpList_store_row rfl 38 _ _ rfl (w.heap.size + 1) #[.int .u32 ez, .int .u32 mz] rfl rfl 38 _ r1 hq2 rfl hall ?_)
              go_roundw
              case rel => exact ⟨k + 1, ez, mz, true, by omega, HCy.out rfl, rfl, by simp, HX⟩
              case measure => simp [intOf]; omega
            | false =>
              go_wp2
              go_roundw
              case rel => exact ⟨k + 1, e, m, true, by omega, HCn.out rfl, rfl, by simp, HM4.out.cm⟩
              case measure => simp [intOf]; omega
    · obtain rfl : k = N := by omega
      have r0 := HM.out.r0
      have x0 := cell_of_row _ _ 0 _ _ _ HM.out.r1
      have x1 := cell_of_row _ _ 1 _ _ _ HM.out.r1
      have HX : Hid ((wr.setRow w.heap.size #[.int .u32 e, .int .u32 m]).heap[w.heap.size]? = some (.cells #[.int .u32 e, .int .u32 m] 38 (0, 0)) ∧ Below w.heap.size w (wr.setRow w.heap.size #[.int .u32 e, .int .u32 m])) := HM.out.set0 e m
      have HV : Hid (R = (fo, e, m)) := by show _ = _; rw [HRr.out, ← HE.out, HCk.out]
      clear HM HRr
      have hq2 := q2z
      have hall : (#[Value.int .u32 e, .int .u32 m]).all (·.oneCell') = true := by simp [Value.oneCell']
      go_wp2_with (refine wpList_store_row rfl 38 _ _ rfl w.heap.size #[.int .u32 e, .int .u32 m] rfl rfl 38 _ r0 hq2 rfl hall ?_)
      all_goals (refine bodyPost_ret (zx_ret Try.results16 _ _ w.heap.size e m _ _ _ rfl rfl HX.out.1) rfl ?_; exact ⟨by rw [HV.out]; rfl, HX.out.2⟩)

end Go.Proofs.Ytlnoighjdmjdeaa
