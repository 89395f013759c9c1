/- filled of package packet: what of a packet is not zero, as bits. -/
import Derived.Test.YtgjjcmhlmdfccaaGreatDoorPkHJ
namespace Go.Proofs.YtgjjcmhlmdfccaaGreatDoor
open Go.RowKit
set_option maxRecDepth 8000

theorem neqCn (e n f m : Int) (w : World) : (binOp .neq 25 (.agg #[.int .u32 e, .int .u32 n]) (.agg #[.int .u32 f, .int .u32 m])).run Tryz.prog w = .ok (.bool (!decide (e = f ∧ n = m))) w := by
  have hu : Tryz.prog.underlying 25 = some (.struct (Tryz.prog.fieldsOf 25)) := by kernel_rfl
  have hp : Tryz.prog.stoodInHeld 25 = false := by kernel_rfl
  have u3 := Tryz.underlying23
  have a3 := Tryz.isAgg23
  have z3 := Tryz.sizeOf23
  rw [run_neq_struct, show (10000 : Nat) = 9999 + 1 from rfl, run_equalIn_agg w 9999 _ _ _ hu hp]
  simp only [Program.fieldsOf, Tryz.underlying25]
  go_simp
  by_cases h1 : e = f <;> by_cases h2 : n = m <;> simp [h1, h2]
theorem neqZxP (e n f m : Int) (w : World) : (binOp .neq 27 (.agg #[.int .u32 e, .int .u32 n]) (.agg #[.int .u32 f, .int .u32 m])).run Tryz.prog w = .ok (.bool (!decide (e = f ∧ n = m))) w := by
  have hu : Tryz.prog.underlying 27 = some (.struct (Tryz.prog.fieldsOf 27)) := by kernel_rfl
  have hp : Tryz.prog.stoodInHeld 27 = false := by kernel_rfl
  have u3 := Tryz.underlying23
  have a3 := Tryz.isAgg23
  have z3 := Tryz.sizeOf23
  rw [run_neq_struct, show (10000 : Nat) = 9999 + 1 from rfl, run_equalIn_agg w 9999 _ _ _ hu hp]
  simp only [Program.fieldsOf, Tryz.underlying27]
  go_simp
  by_cases h1 : e = f <;> by_cases h2 : n = m <;> simp [h1, h2]

/-- Bits, put together. -/
def fillM (c l p e u z v o f t b s : Bool) : Int :=
  bits .or .u16 (bits .or .u16 (bits .or .u16 (bits .or .u16 (bits .or .u16 (bits .or .u16 (bits .or .u16 (bits .or .u16 (bits .or .u16 (bits .or .u16 (bits .or .u16 (bz 1 c) (bz 2 l)) (bz 4 p)) (bz 8 e)) (bz 16 u)) (bz 32 z)) (bz 64 v)) (bz 128 o)) (bz 256 f)) (bz 512 t)) (bz 1024 b)) (bz 2048 s)
/-- What of a packet is not zero (tz: its transaction is none). -/
def fillP (p : PkD) (tz : Bool) : Int :=
  fillM (!decide (p.cb = 0 ∧ p.ct = 0)) (!decide (p.lb = 0 ∧ p.lt = 0)) (p.place != 0) (p.ep != 0) (p.cur != 0) (!decide (p.ze = 0 ∧ p.zn = 0)) (!decide (p.pe = 0 ∧ p.pn = 0)) p.cnt p.fin (!tz) (decide (0 < p.bys.length)) (p.ses != 0)

theorem PkAt.held {W : World} {g : Nat} {p : PkD} {tc : List Value} {bv : Value} (h : PkAt W g p tc bv) (hl : tc.length = 16) : W.cell? ⟨g, 1, none⟩ = some (.int .u32 p.cb) ∧ W.cell? ⟨g, 2, none⟩ = some (.int .u32 p.ct) ∧ W.cell? ⟨g, 3, none⟩ = some (.int .u32 p.lb) ∧ W.cell? ⟨g, 4, none⟩ = some (.int .u32 p.lt) ∧ W.cell? ⟨g, 5, none⟩ = some (.int .i64 p.place) ∧ W.cell? ⟨g, 6, none⟩ = some (.int .u32 p.ep) ∧ W.cell? ⟨g, 7, none⟩ = some (.int .u32 p.cur) ∧ W.cell? ⟨g, 8, none⟩ = some (.int .u32 p.ze) ∧ W.cell? ⟨g, 9, none⟩ = some (.int .u32 p.zn) ∧ W.cell? ⟨g, 10, none⟩ = some (.int .u32 p.pe) ∧ W.cell? ⟨g, 11, none⟩ = some (.int .u32 p.pn) ∧ W.cell? ⟨g, 12, none⟩ = some (.bool p.cnt) ∧ W.cell? ⟨g, 13, none⟩ = some (.bool p.fin) ∧ W.cell? ⟨g, 30, none⟩ = some (bv) ∧ W.cell? ⟨g, 31, none⟩ = some (.int .i64 p.ses) ∧ W.rangeAt g 14 tc :=
  ⟨pk_at h rfl, pk_at h rfl, pk_at h rfl, pk_at h rfl, pk_at h rfl, pk_at h rfl, pk_at h rfl, pk_at h rfl, pk_at h rfl, pk_at h rfl, pk_at h rfl, pk_at h rfl, pk_at h rfl, (h.tail hl).2.1, (h.tail hl).2.2, (h.tail hl).1⟩

set_option maxHeartbeats 4000000 in
theorem filledP_any (p : PkD) (tc : List Value) (bv : Value) (tz : Bool) (hz : tz = true ↔ p.tx = txN) (w : World) (hs : SeesPk w tc bv p) :
    Calls Tryz.prog 28 #[.agg (pkL p tc bv).toArray] w fun r w' => r = .returned (.int .u16 (fillP p tz)) ∧ Below w.heap.size w w' := by
  obtain ⟨W, HE, HW⟩ := pk_box p tc bv w
  obtain ⟨C, hC⟩ : ∃ C, C = fillP p tz := ⟨_, rfl⟩
  rw [← hC]
  have HC : Hid _ := hC
  clear hC
  have HS : Hid (SeesPk w tc bv p) := hs
  have hl16 := hs.tx.len
  have q16 : (Tryz.prog.info? 37).map (·.size) = some tc.length := by rw [hs.tx.len]; exact txSz
  obtain ⟨ao, cap, rfl⟩ : ∃ ao cap, bv = .slice ao p.bys.length cap := by obtain ⟨ao, cap, h, _⟩ := hs.bys; exact ⟨ao, cap, h⟩
  have hgt : Tryz.prog.eqGuardType Tryz.prog.depth 27 = false := by kernel_rfl
  have hgc : Tryz.prog.eqGuardType Tryz.prog.depth 25 = false := by kernel_rfl
  have n1 := neqCn p.cb p.ct 0 0
  have n2 := neqCn p.lb p.lt 0 0
  have n3 := neqZxP p.ze p.zn 0 0
  have n4 := neqZxP p.pe p.pn 0 0
  have HSM : Hid (∀ V, Below w.heap.size w V → Calls Tryz.prog 39 #[.agg tc.toArray, .agg zTx] V fun r w' => r = .returned (.bool tz) ∧ Below V.heap.size V w') := fun V hV => same0 tc p.tx tz hz V (hs.tx.below hV (Nat.le_refl _))
  obtain ⟨f1, hf1⟩ : ∃ f1, f1 = (!decide (p.cb = 0 ∧ p.ct = 0)) := ⟨_, rfl⟩
  obtain ⟨f2, hf2⟩ : ∃ f2, f2 = (!decide (p.lb = 0 ∧ p.lt = 0)) := ⟨_, rfl⟩
  obtain ⟨f3, hf3⟩ : ∃ f3, f3 = (!decide (p.ze = 0 ∧ p.zn = 0)) := ⟨_, rfl⟩
  obtain ⟨f4, hf4⟩ : ∃ f4, f4 = (!decide (p.pe = 0 ∧ p.pn = 0)) := ⟨_, rfl⟩
  rw [← hf1] at n1
  rw [← hf2] at n2
  rw [← hf3] at n3
  rw [← hf4] at n4
  have HF : Hid (f1 = (!decide (p.cb = 0 ∧ p.ct = 0)) ∧ f2 = (!decide (p.lb = 0 ∧ p.lt = 0)) ∧ f3 = (!decide (p.ze = 0 ∧ p.zn = 0)) ∧ f4 = (!decide (p.pe = 0 ∧ p.pn = 0))) := ⟨hf1, hf2, hf3, hf4⟩
  clear hf1 hf2 hf3 hf4 hs hz
  go_enter Tryz.func28, Tryz.ntmps28
  go_upto_region 1 with fail
  rw [← HE.out]
  clear HE
  have HD : Hid (Below w.heap.size w W.drew ∧ PkAt W.drew w.heap.size p tc (.slice ao p.bys.length cap)) := ⟨HW.out.1.trans ((below_drewN (Below.refl _ _) 1).mono HW.out.1.size), HW.out.2⟩
  refine wp_region_held_drew (S := (fun W => W.cell? ⟨w.heap.size, 1, none⟩ = some (.int .u32 p.cb) ∧ W.cell? ⟨w.heap.size, 2, none⟩ = some (.int .u32 p.ct) ∧ W.cell? ⟨w.heap.size, 3, none⟩ = some (.int .u32 p.lb) ∧ W.cell? ⟨w.heap.size, 4, none⟩ = some (.int .u32 p.lt) ∧ W.cell? ⟨w.heap.size, 5, none⟩ = some (.int .i64 p.place) ∧ W.cell? ⟨w.heap.size, 6, none⟩ = some (.int .u32 p.ep) ∧ W.cell? ⟨w.heap.size, 7, none⟩ = some (.int .u32 p.cur) ∧ W.cell? ⟨w.heap.size, 8, none⟩ = some (.int .u32 p.ze) ∧ W.cell? ⟨w.heap.size, 9, none⟩ = some (.int .u32 p.zn) ∧ W.cell? ⟨w.heap.size, 10, none⟩ = some (.int .u32 p.pe) ∧ W.cell? ⟨w.heap.size, 11, none⟩ = some (.int .u32 p.pn) ∧ W.cell? ⟨w.heap.size, 12, none⟩ = some (.bool p.cnt) ∧ W.cell? ⟨w.heap.size, 13, none⟩ = some (.bool p.fin) ∧ W.cell? ⟨w.heap.size, 30, none⟩ = some (.slice ao p.bys.length cap) ∧ W.cell? ⟨w.heap.size, 31, none⟩ = some (.int .i64 p.ses) ∧ W.rangeAt w.heap.size 14 tc)) (by kernel_rfl) ?_ (fun hHeld => ?_)
  · exact HD.out.2.held hl16
  refine wpAnyH_take (i := 0) (oi := { dst := some 3, op := Op.fieldAddr 39 (Operand.tmp 1) 1, type := 0, pos := "fields.go:55", after := #[], guard := none }) (v := ?_) rfl (by kernel_rfl) (by kernel_rfl) (by kernel_rfl) (fun _ _ _ h => h) (Or.inl ⟨by rfl, ?_⟩) (by assumption) ?_
  rotate_left
  · (intro w hSw; (try dsimp only at hSw); go_simp) <;> with_reducible rfl
  try simp only [Act.put, List.setIfInBounds_toArray, List.set_cons_zero, List.set_cons_succ]
  refine wpAnyH_take (i := 1) (oi := { dst := some 4, op := Op.load 25 (Operand.tmp 3), type := 25, pos := "fields.go:55", after := #[{ on := 0, ground := Ground.data }], guard := none }) (v := ?_) rfl (by kernel_rfl) (by kernel_rfl) (by kernel_rfl) (fun _ _ _ h => h) (Or.inl ⟨by rfl, ?_⟩) (by assumption) ?_
  rotate_left
  · (intro w hSw; (try dsimp only at hSw); go_simp) <;> with_reducible rfl
  try simp only [Act.put, List.setIfInBounds_toArray, List.set_cons_zero, List.set_cons_succ]
  refine wpAnyH_take (i := 2) (oi := { dst := some 5, op := Op.build 25 #[], type := 25, pos := "fields.go:55", after := #[], guard := none }) (v := ?_) rfl (by kernel_rfl) (by kernel_rfl) (by kernel_rfl) (fun _ _ _ h => h) (Or.inl ⟨by rfl, ?_⟩) (by assumption) ?_
  rotate_left
  · (intro w hSw; (try dsimp only at hSw); go_simp) <;> with_reducible rfl
  try simp only [Act.put, List.setIfInBounds_toArray, List.set_cons_zero, List.set_cons_succ]
  refine wpAnyH_take (i := 3) (oi := { dst := some 6, op := Op.binOp BinOp.neq 25 (Operand.tmp 4) (Operand.tmp 5) 25, type := 4, pos := "fields.go:55", after := #[{ on := 1, ground := Ground.data }, { on := 2, ground := Ground.data }], guard := none }) (v := ?_) rfl (by kernel_rfl) (by kernel_rfl) (by kernel_rfl) (fun _ _ _ h => h) (Or.inl ⟨by rfl, ?_⟩) (by assumption) ?_
  rotate_left
  · (intro w hSw; (try dsimp only at hSw); go_simp) <;> with_reducible rfl
  try simp only [Act.put, List.setIfInBounds_toArray, List.set_cons_zero, List.set_cons_succ]
  refine wpAnyH_take (i := 5) (oi := { dst := some 8, op := Op.fieldAddr 39 (Operand.tmp 1) 2, type := 0, pos := "fields.go:55", after := #[], guard := none }) (v := ?_) rfl (by kernel_rfl) (by kernel_rfl) (by kernel_rfl) (fun _ _ _ h => h) (Or.inl ⟨by rfl, ?_⟩) (by assumption) ?_
  rotate_left
  · (intro w hSw; (try dsimp only at hSw); go_simp) <;> with_reducible rfl
  try simp only [Act.put, List.setIfInBounds_toArray, List.set_cons_zero, List.set_cons_succ]
  refine wpAnyH_take (i := 6) (oi := { dst := some 9, op := Op.load 25 (Operand.tmp 8), type := 25, pos := "fields.go:55", after := #[{ on := 5, ground := Ground.data }], guard := none }) (v := ?_) rfl (by kernel_rfl) (by kernel_rfl) (by kernel_rfl) (fun _ _ _ h => h) (Or.inl ⟨by rfl, ?_⟩) (by assumption) ?_
  rotate_left
  · (intro w hSw; (try dsimp only at hSw); go_simp) <;> with_reducible rfl
  try simp only [Act.put, List.setIfInBounds_toArray, List.set_cons_zero, List.set_cons_succ]
  refine wpAnyH_take (i := 7) (oi := { dst := some 10, op := Op.build 25 #[], type := 25, pos := "fields.go:55", after := #[], guard := none }) (v := ?_) rfl (by kernel_rfl) (by kernel_rfl) (by kernel_rfl) (fun _ _ _ h => h) (Or.inl ⟨by rfl, ?_⟩) (by assumption) ?_
  rotate_left
  · (intro w hSw; (try dsimp only at hSw); go_simp) <;> with_reducible rfl
  try simp only [Act.put, List.setIfInBounds_toArray, List.set_cons_zero, List.set_cons_succ]
  refine wpAnyH_take (i := 8) (oi := { dst := some 11, op := Op.binOp BinOp.neq 25 (Operand.tmp 9) (Operand.tmp 10) 25, type := 4, pos := "fields.go:55", after := #[{ on := 6, ground := Ground.data }, { on := 7, ground := Ground.data }], guard := none }) (v := ?_) rfl (by kernel_rfl) (by kernel_rfl) (by kernel_rfl) (fun _ _ _ h => h) (Or.inl ⟨by rfl, ?_⟩) (by assumption) ?_
  rotate_left
  · (intro w hSw; (try dsimp only at hSw); go_simp) <;> with_reducible rfl
  try simp only [Act.put, List.setIfInBounds_toArray, List.set_cons_zero, List.set_cons_succ]
  refine wpAnyH_take (i := 11) (oi := { dst := some 14, op := Op.fieldAddr 39 (Operand.tmp 1) 3, type := 0, pos := "fields.go:55", after := #[], guard := none }) (v := ?_) rfl (by kernel_rfl) (by kernel_rfl) (by kernel_rfl) (fun _ _ _ h => h) (Or.inl ⟨by rfl, ?_⟩) (by assumption) ?_
  rotate_left
  · (intro w hSw; (try dsimp only at hSw); go_simp) <;> with_reducible rfl
  try simp only [Act.put, List.setIfInBounds_toArray, List.set_cons_zero, List.set_cons_succ]
  refine wpAnyH_take (i := 12) (oi := { dst := some 15, op := Op.load 2 (Operand.tmp 14), type := 2, pos := "fields.go:55", after := #[{ on := 11, ground := Ground.data }], guard := none }) (v := ?_) rfl (by kernel_rfl) (by kernel_rfl) (by kernel_rfl) (fun _ _ _ h => h) (Or.inl ⟨by rfl, ?_⟩) (by assumption) ?_
  rotate_left
  · (intro w hSw; (try dsimp only at hSw); go_simp) <;> with_reducible rfl
  try simp only [Act.put, List.setIfInBounds_toArray, List.set_cons_zero, List.set_cons_succ]
  refine wpAnyH_take (i := 13) (oi := { dst := some 16, op := Op.binOp BinOp.neq 2 (Operand.tmp 15) (Operand.const (Value.int IntKind.i64 0)) 2, type := 4, pos := "fields.go:55", after := #[{ on := 12, ground := Ground.data }], guard := none }) (v := ?_) rfl (by kernel_rfl) (by kernel_rfl) (by kernel_rfl) (fun _ _ _ h => h) (Or.inl ⟨by rfl, ?_⟩) (by assumption) ?_
  rotate_left
  · (intro w hSw; (try dsimp only at hSw); go_simp) <;> with_reducible rfl
  try simp only [Act.put, List.setIfInBounds_toArray, List.set_cons_zero, List.set_cons_succ]
  refine wpAnyH_take (i := 16) (oi := { dst := some 19, op := Op.fieldAddr 39 (Operand.tmp 1) 4, type := 0, pos := "fields.go:55", after := #[], guard := none }) (v := ?_) rfl (by kernel_rfl) (by kernel_rfl) (by kernel_rfl) (fun _ _ _ h => h) (Or.inl ⟨by rfl, ?_⟩) (by assumption) ?_
  rotate_left
  · (intro w hSw; (try dsimp only at hSw); go_simp) <;> with_reducible rfl
  try simp only [Act.put, List.setIfInBounds_toArray, List.set_cons_zero, List.set_cons_succ]
  refine wpAnyH_take (i := 17) (oi := { dst := some 20, op := Op.load 23 (Operand.tmp 19), type := 23, pos := "fields.go:55", after := #[{ on := 16, ground := Ground.data }], guard := none }) (v := ?_) rfl (by kernel_rfl) (by kernel_rfl) (by kernel_rfl) (fun _ _ _ h => h) (Or.inl ⟨by rfl, ?_⟩) (by assumption) ?_
  rotate_left
  · (intro w hSw; (try dsimp only at hSw); go_simp) <;> with_reducible rfl
  try simp only [Act.put, List.setIfInBounds_toArray, List.set_cons_zero, List.set_cons_succ]
  refine wpAnyH_take (i := 18) (oi := { dst := some 21, op := Op.binOp BinOp.neq 23 (Operand.tmp 20) (Operand.const (Value.int IntKind.u32 0)) 23, type := 4, pos := "fields.go:55", after := #[{ on := 17, ground := Ground.data }], guard := none }) (v := ?_) rfl (by kernel_rfl) (by kernel_rfl) (by kernel_rfl) (fun _ _ _ h => h) (Or.inl ⟨by rfl, ?_⟩) (by assumption) ?_
  rotate_left
  · (intro w hSw; (try dsimp only at hSw); go_simp) <;> with_reducible rfl
  try simp only [Act.put, List.setIfInBounds_toArray, List.set_cons_zero, List.set_cons_succ]
  refine wpAnyH_take (i := 21) (oi := { dst := some 24, op := Op.fieldAddr 39 (Operand.tmp 1) 5, type := 0, pos := "fields.go:55", after := #[], guard := none }) (v := ?_) rfl (by kernel_rfl) (by kernel_rfl) (by kernel_rfl) (fun _ _ _ h => h) (Or.inl ⟨by rfl, ?_⟩) (by assumption) ?_
  rotate_left
  · (intro w hSw; (try dsimp only at hSw); go_simp) <;> with_reducible rfl
  try simp only [Act.put, List.setIfInBounds_toArray, List.set_cons_zero, List.set_cons_succ]
  refine wpAnyH_take (i := 22) (oi := { dst := some 25, op := Op.load 23 (Operand.tmp 24), type := 23, pos := "fields.go:55", after := #[{ on := 21, ground := Ground.data }], guard := none }) (v := ?_) rfl (by kernel_rfl) (by kernel_rfl) (by kernel_rfl) (fun _ _ _ h => h) (Or.inl ⟨by rfl, ?_⟩) (by assumption) ?_
  rotate_left
  · (intro w hSw; (try dsimp only at hSw); go_simp) <;> with_reducible rfl
  try simp only [Act.put, List.setIfInBounds_toArray, List.set_cons_zero, List.set_cons_succ]
  refine wpAnyH_take (i := 23) (oi := { dst := some 26, op := Op.binOp BinOp.neq 23 (Operand.tmp 25) (Operand.const (Value.int IntKind.u32 0)) 23, type := 4, pos := "fields.go:55", after := #[{ on := 22, ground := Ground.data }], guard := none }) (v := ?_) rfl (by kernel_rfl) (by kernel_rfl) (by kernel_rfl) (fun _ _ _ h => h) (Or.inl ⟨by rfl, ?_⟩) (by assumption) ?_
  rotate_left
  · (intro w hSw; (try dsimp only at hSw); go_simp) <;> with_reducible rfl
  try simp only [Act.put, List.setIfInBounds_toArray, List.set_cons_zero, List.set_cons_succ]
  refine wpAnyH_take (i := 26) (oi := { dst := some 29, op := Op.fieldAddr 39 (Operand.tmp 1) 6, type := 0, pos := "fields.go:55", after := #[], guard := none }) (v := ?_) rfl (by kernel_rfl) (by kernel_rfl) (by kernel_rfl) (fun _ _ _ h => h) (Or.inl ⟨by rfl, ?_⟩) (by assumption) ?_
  rotate_left
  · (intro w hSw; (try dsimp only at hSw); go_simp) <;> with_reducible rfl
  try simp only [Act.put, List.setIfInBounds_toArray, List.set_cons_zero, List.set_cons_succ]
  refine wpAnyH_take (i := 27) (oi := { dst := some 30, op := Op.load 27 (Operand.tmp 29), type := 27, pos := "fields.go:55", after := #[{ on := 26, ground := Ground.data }], guard := none }) (v := ?_) rfl (by kernel_rfl) (by kernel_rfl) (by kernel_rfl) (fun _ _ _ h => h) (Or.inl ⟨by rfl, ?_⟩) (by assumption) ?_
  rotate_left
  · (intro w hSw; (try dsimp only at hSw); go_simp) <;> with_reducible rfl
  try simp only [Act.put, List.setIfInBounds_toArray, List.set_cons_zero, List.set_cons_succ]
  refine wpAnyH_take (i := 28) (oi := { dst := some 31, op := Op.build 27 #[], type := 27, pos := "fields.go:55", after := #[], guard := none }) (v := ?_) rfl (by kernel_rfl) (by kernel_rfl) (by kernel_rfl) (fun _ _ _ h => h) (Or.inl ⟨by rfl, ?_⟩) (by assumption) ?_
  rotate_left
  · (intro w hSw; (try dsimp only at hSw); go_simp) <;> with_reducible rfl
  try simp only [Act.put, List.setIfInBounds_toArray, List.set_cons_zero, List.set_cons_succ]
  refine wpAnyH_take (i := 29) (oi := { dst := some 32, op := Op.binOp BinOp.neq 27 (Operand.tmp 30) (Operand.tmp 31) 27, type := 4, pos := "fields.go:55", after := #[{ on := 27, ground := Ground.data }, { on := 28, ground := Ground.data }], guard := none }) (v := ?_) rfl (by kernel_rfl) (by kernel_rfl) (by kernel_rfl) (fun _ _ _ h => h) (Or.inl ⟨by rfl, ?_⟩) (by assumption) ?_
  rotate_left
  · (intro w hSw; (try dsimp only at hSw); go_simp) <;> with_reducible rfl
  try simp only [Act.put, List.setIfInBounds_toArray, List.set_cons_zero, List.set_cons_succ]
  refine wpAnyH_take (i := 32) (oi := { dst := some 35, op := Op.fieldAddr 39 (Operand.tmp 1) 7, type := 0, pos := "fields.go:55", after := #[], guard := none }) (v := ?_) rfl (by kernel_rfl) (by kernel_rfl) (by kernel_rfl) (fun _ _ _ h => h) (Or.inl ⟨by rfl, ?_⟩) (by assumption) ?_
  rotate_left
  · (intro w hSw; (try dsimp only at hSw); go_simp) <;> with_reducible rfl
  try simp only [Act.put, List.setIfInBounds_toArray, List.set_cons_zero, List.set_cons_succ]
  refine wpAnyH_take (i := 33) (oi := { dst := some 36, op := Op.load 27 (Operand.tmp 35), type := 27, pos := "fields.go:55", after := #[{ on := 32, ground := Ground.data }], guard := none }) (v := ?_) rfl (by kernel_rfl) (by kernel_rfl) (by kernel_rfl) (fun _ _ _ h => h) (Or.inl ⟨by rfl, ?_⟩) (by assumption) ?_
  rotate_left
  · (intro w hSw; (try dsimp only at hSw); go_simp) <;> with_reducible rfl
  try simp only [Act.put, List.setIfInBounds_toArray, List.set_cons_zero, List.set_cons_succ]
  refine wpAnyH_take (i := 34) (oi := { dst := some 37, op := Op.build 27 #[], type := 27, pos := "fields.go:55", after := #[], guard := none }) (v := ?_) rfl (by kernel_rfl) (by kernel_rfl) (by kernel_rfl) (fun _ _ _ h => h) (Or.inl ⟨by rfl, ?_⟩) (by assumption) ?_
  rotate_left
  · (intro w hSw; (try dsimp only at hSw); go_simp) <;> with_reducible rfl
  try simp only [Act.put, List.setIfInBounds_toArray, List.set_cons_zero, List.set_cons_succ]
  refine wpAnyH_take (i := 35) (oi := { dst := some 38, op := Op.binOp BinOp.neq 27 (Operand.tmp 36) (Operand.tmp 37) 27, type := 4, pos := "fields.go:55", after := #[{ on := 33, ground := Ground.data }, { on := 34, ground := Ground.data }], guard := none }) (v := ?_) rfl (by kernel_rfl) (by kernel_rfl) (by kernel_rfl) (fun _ _ _ h => h) (Or.inl ⟨by rfl, ?_⟩) (by assumption) ?_
  rotate_left
  · (intro w hSw; (try dsimp only at hSw); go_simp) <;> with_reducible rfl
  try simp only [Act.put, List.setIfInBounds_toArray, List.set_cons_zero, List.set_cons_succ]
  refine wpAnyH_take (i := 38) (oi := { dst := some 41, op := Op.fieldAddr 39 (Operand.tmp 1) 8, type := 0, pos := "fields.go:55", after := #[], guard := none }) (v := ?_) rfl (by kernel_rfl) (by kernel_rfl) (by kernel_rfl) (fun _ _ _ h => h) (Or.inl ⟨by rfl, ?_⟩) (by assumption) ?_
  rotate_left
  · (intro w hSw; (try dsimp only at hSw); go_simp) <;> with_reducible rfl
  try simp only [Act.put, List.setIfInBounds_toArray, List.set_cons_zero, List.set_cons_succ]
  refine wpAnyH_take (i := 39) (oi := { dst := some 42, op := Op.load 4 (Operand.tmp 41), type := 4, pos := "fields.go:55", after := #[{ on := 38, ground := Ground.data }], guard := none }) (v := ?_) rfl (by kernel_rfl) (by kernel_rfl) (by kernel_rfl) (fun _ _ _ h => h) (Or.inl ⟨by rfl, ?_⟩) (by assumption) ?_
  rotate_left
  · (intro w hSw; (try dsimp only at hSw); go_simp) <;> with_reducible rfl
  try simp only [Act.put, List.setIfInBounds_toArray, List.set_cons_zero, List.set_cons_succ]
  refine wpAnyH_take (i := 42) (oi := { dst := some 45, op := Op.fieldAddr 39 (Operand.tmp 1) 9, type := 0, pos := "fields.go:55", after := #[], guard := none }) (v := ?_) rfl (by kernel_rfl) (by kernel_rfl) (by kernel_rfl) (fun _ _ _ h => h) (Or.inl ⟨by rfl, ?_⟩) (by assumption) ?_
  rotate_left
  · (intro w hSw; (try dsimp only at hSw); go_simp) <;> with_reducible rfl
  try simp only [Act.put, List.setIfInBounds_toArray, List.set_cons_zero, List.set_cons_succ]
  refine wpAnyH_take (i := 43) (oi := { dst := some 46, op := Op.load 4 (Operand.tmp 45), type := 4, pos := "fields.go:55", after := #[{ on := 42, ground := Ground.data }], guard := none }) (v := ?_) rfl (by kernel_rfl) (by kernel_rfl) (by kernel_rfl) (fun _ _ _ h => h) (Or.inl ⟨by rfl, ?_⟩) (by assumption) ?_
  rotate_left
  · (intro w hSw; (try dsimp only at hSw); go_simp) <;> with_reducible rfl
  try simp only [Act.put, List.setIfInBounds_toArray, List.set_cons_zero, List.set_cons_succ]
  refine wpAnyH_take (i := 46) (oi := { dst := some 49, op := Op.fieldAddr 39 (Operand.tmp 1) 10, type := 0, pos := "fields.go:55", after := #[], guard := none }) (v := ?_) rfl (by kernel_rfl) (by kernel_rfl) (by kernel_rfl) (fun _ _ _ h => h) (Or.inl ⟨by rfl, ?_⟩) (by assumption) ?_
  rotate_left
  · (intro w hSw; (try dsimp only at hSw); go_simp) <;> with_reducible rfl
  try simp only [Act.put, List.setIfInBounds_toArray, List.set_cons_zero, List.set_cons_succ]
  refine wpAnyH_take (i := 47) (oi := { dst := some 50, op := Op.load 37 (Operand.tmp 49), type := 37, pos := "fields.go:55", after := #[{ on := 46, ground := Ground.data }], guard := none }) (v := .agg tc.toArray) rfl (by kernel_rfl) (by kernel_rfl) (by kernel_rfl) (fun _ _ _ h => h) (yieldsIf_load_mid rfl 37 _ rfl w.heap.size 14 rfl tc _ (fun _ h => h.2.2.2.2.2.2.2.2.2.2.2.2.2.2.2) Tryz.underlying37 rfl q16) (by assumption) ?_
  try simp only [Act.put, List.setIfInBounds_toArray, List.set_cons_zero, List.set_cons_succ]
  refine wpAnyH_take (i := 48) (oi := { dst := some 51, op := Op.build 37 #[], type := 37, pos := "fields.go:55", after := #[], guard := none }) (v := ?_) rfl (by kernel_rfl) (by kernel_rfl) (by kernel_rfl) (fun _ _ _ h => h) (Or.inl ⟨by rfl, ?_⟩) (by assumption) ?_
  rotate_left
  · (intro w hSw; (try dsimp only at hSw); go_simp) <;> with_reducible rfl
  try simp only [Act.put, List.setIfInBounds_toArray, List.set_cons_zero, List.set_cons_succ]
  refine wpAnyH_take (i := 53) (oi := { dst := some 56, op := Op.fieldAddr 39 (Operand.tmp 1) 11, type := 0, pos := "fields.go:55", after := #[], guard := none }) (v := ?_) rfl (by kernel_rfl) (by kernel_rfl) (by kernel_rfl) (fun _ _ _ h => h) (Or.inl ⟨by rfl, ?_⟩) (by assumption) ?_
  rotate_left
  · (intro w hSw; (try dsimp only at hSw); go_simp) <;> with_reducible rfl
  try simp only [Act.put, List.setIfInBounds_toArray, List.set_cons_zero, List.set_cons_succ]
  refine wpAnyH_take (i := 54) (oi := { dst := some 57, op := Op.load 30 (Operand.tmp 56), type := 30, pos := "fields.go:55", after := #[{ on := 53, ground := Ground.data }], guard := none }) (v := ?_) rfl (by kernel_rfl) (by kernel_rfl) (by kernel_rfl) (fun _ _ _ h => h) (Or.inl ⟨by rfl, ?_⟩) (by assumption) ?_
  rotate_left
  · (intro w hSw; (try dsimp only at hSw); go_simp) <;> with_reducible rfl
  try simp only [Act.put, List.setIfInBounds_toArray, List.set_cons_zero, List.set_cons_succ]
  refine wpAnyH_take (i := 55) (oi := { dst := some 58, op := Op.call { callee := Callee.builtin Builtin.len, args := #[Operand.tmp 57], argTypes := #[30] }, type := 3, pos := "fields.go:55", after := #[{ on := 54, ground := Ground.data }], guard := none }) (v := ?_) rfl (by kernel_rfl) (by kernel_rfl) (by kernel_rfl) (fun _ _ _ h => h) (Or.inl ⟨by rfl, ?_⟩) (by assumption) ?_
  rotate_left
  · (intro w hSw; (try dsimp only at hSw); go_simp) <;> with_reducible rfl
  try simp only [Act.put, List.setIfInBounds_toArray, List.set_cons_zero, List.set_cons_succ]
  refine wpAnyH_take (i := 56) (oi := { dst := some 59, op := Op.binOp BinOp.gtr 3 (Operand.tmp 58) (Operand.const (Value.int IntKind.i64 0)) 3, type := 4, pos := "fields.go:55", after := #[{ on := 55, ground := Ground.data }], guard := none }) (v := ?_) rfl (by kernel_rfl) (by kernel_rfl) (by kernel_rfl) (fun _ _ _ h => h) (Or.inl ⟨by rfl, ?_⟩) (by assumption) ?_
  rotate_left
  · (intro w hSw; (try dsimp only at hSw); go_simp) <;> with_reducible rfl
  try simp only [Act.put, List.setIfInBounds_toArray, List.set_cons_zero, List.set_cons_succ]
  refine wpAnyH_take (i := 59) (oi := { dst := some 62, op := Op.fieldAddr 39 (Operand.tmp 1) 12, type := 0, pos := "fields.go:55", after := #[], guard := none }) (v := ?_) rfl (by kernel_rfl) (by kernel_rfl) (by kernel_rfl) (fun _ _ _ h => h) (Or.inl ⟨by rfl, ?_⟩) (by assumption) ?_
  rotate_left
  · (intro w hSw; (try dsimp only at hSw); go_simp) <;> with_reducible rfl
  try simp only [Act.put, List.setIfInBounds_toArray, List.set_cons_zero, List.set_cons_succ]
  refine wpAnyH_take (i := 60) (oi := { dst := some 63, op := Op.load 2 (Operand.tmp 62), type := 2, pos := "fields.go:55", after := #[{ on := 59, ground := Ground.data }], guard := none }) (v := ?_) rfl (by kernel_rfl) (by kernel_rfl) (by kernel_rfl) (fun _ _ _ h => h) (Or.inl ⟨by rfl, ?_⟩) (by assumption) ?_
  rotate_left
  · (intro w hSw; (try dsimp only at hSw); go_simp) <;> with_reducible rfl
  try simp only [Act.put, List.setIfInBounds_toArray, List.set_cons_zero, List.set_cons_succ]
  refine wpAnyH_take (i := 61) (oi := { dst := some 64, op := Op.binOp BinOp.neq 2 (Operand.tmp 63) (Operand.const (Value.int IntKind.i64 0)) 2, type := 4, pos := "fields.go:55", after := #[{ on := 60, ground := Ground.data }], guard := none }) (v := ?_) rfl (by kernel_rfl) (by kernel_rfl) (by kernel_rfl) (fun _ _ _ h => h) (Or.inl ⟨by rfl, ?_⟩) (by assumption) ?_
  rotate_left
  · (intro w hSw; (try dsimp only at hSw); go_simp) <;> with_reducible rfl
  try simp only [Act.put, List.setIfInBounds_toArray, List.set_cons_zero, List.set_cons_succ]
  refine wpAnyH_ready (rs := [4]) (by kernel_rfl) (by simp) ?_
  refine AllReadyH.cons (o := { dst := some 7, op := Op.call { callee := Callee.value (Operand.func 38), args := #[Operand.const (Value.int IntKind.u16 1), Operand.tmp 6], argTypes := #[77, 4] }, type := 77, pos := "fields.go:55", after := #[{ on := 3, ground := Ground.data }], guard := none }) rfl (fun K hK => ?_) AllReadyH.nil
  go_simp
  refine (bitP_any _ _ _).mono ?_
  rintro _ _ ⟨rfl, rfl⟩
  refine hK.out _ _ (by assumption) (fun hHeld => ?_)
  clear hK K
  refine wpAnyH_ready (rs := [9]) (by kernel_rfl) (by simp) ?_
  refine AllReadyH.cons (o := { dst := some 12, op := Op.call { callee := Callee.value (Operand.func 38), args := #[Operand.const (Value.int IntKind.u16 2), Operand.tmp 11], argTypes := #[77, 4] }, type := 77, pos := "fields.go:56", after := #[{ on := 8, ground := Ground.data }, { on := 4, ground := Ground.chain }], guard := none }) rfl (fun K hK => ?_) AllReadyH.nil
  go_simp
  refine (bitP_any _ _ _).mono ?_
  rintro _ _ ⟨rfl, rfl⟩
  refine hK.out _ _ (by assumption) (fun hHeld => ?_)
  clear hK K
  refine wpAnyH_take (i := 10) (oi := { dst := some 13, op := Op.binOp BinOp.or 77 (Operand.tmp 7) (Operand.tmp 12) 77, type := 77, pos := "fields.go:55", after := #[{ on := 4, ground := Ground.data }, { on := 9, ground := Ground.data }], guard := none }) (v := ?_) rfl (by kernel_rfl) (by kernel_rfl) (by kernel_rfl) (fun _ _ _ h => h) (Or.inl ⟨by rfl, ?_⟩) (by assumption) ?_
  rotate_left
  · (intro w hSw; (try dsimp only at hSw); go_simp) <;> with_reducible rfl
  try simp only [Act.put, List.setIfInBounds_toArray, List.set_cons_zero, List.set_cons_succ]
  refine wpAnyH_ready (rs := [14]) (by kernel_rfl) (by simp) ?_
  refine AllReadyH.cons (o := { dst := some 17, op := Op.call { callee := Callee.value (Operand.func 38), args := #[Operand.const (Value.int IntKind.u16 4), Operand.tmp 16], argTypes := #[77, 4] }, type := 77, pos := "fields.go:57", after := #[{ on := 13, ground := Ground.data }, { on := 9, ground := Ground.chain }], guard := none }) rfl (fun K hK => ?_) AllReadyH.nil
  go_simp
  refine (bitP_any _ _ _).mono ?_
  rintro _ _ ⟨rfl, rfl⟩
  refine hK.out _ _ (by assumption) (fun hHeld => ?_)
  clear hK K
  refine wpAnyH_take (i := 15) (oi := { dst := some 18, op := Op.binOp BinOp.or 77 (Operand.tmp 13) (Operand.tmp 17) 77, type := 77, pos := "fields.go:55", after := #[{ on := 10, ground := Ground.data }, { on := 14, ground := Ground.data }], guard := none }) (v := ?_) rfl (by kernel_rfl) (by kernel_rfl) (by kernel_rfl) (fun _ _ _ h => h) (Or.inl ⟨by rfl, ?_⟩) (by assumption) ?_
  rotate_left
  · (intro w hSw; (try dsimp only at hSw); go_simp) <;> with_reducible rfl
  try simp only [Act.put, List.setIfInBounds_toArray, List.set_cons_zero, List.set_cons_succ]
  refine wpAnyH_ready (rs := [19]) (by kernel_rfl) (by simp) ?_
  refine AllReadyH.cons (o := { dst := some 22, op := Op.call { callee := Callee.value (Operand.func 38), args := #[Operand.const (Value.int IntKind.u16 8), Operand.tmp 21], argTypes := #[77, 4] }, type := 77, pos := "fields.go:58", after := #[{ on := 18, ground := Ground.data }, { on := 14, ground := Ground.chain }], guard := none }) rfl (fun K hK => ?_) AllReadyH.nil
  go_simp
  refine (bitP_any _ _ _).mono ?_
  rintro _ _ ⟨rfl, rfl⟩
  refine hK.out _ _ (by assumption) (fun hHeld => ?_)
  clear hK K
  refine wpAnyH_take (i := 20) (oi := { dst := some 23, op := Op.binOp BinOp.or 77 (Operand.tmp 18) (Operand.tmp 22) 77, type := 77, pos := "fields.go:55", after := #[{ on := 15, ground := Ground.data }, { on := 19, ground := Ground.data }], guard := none }) (v := ?_) rfl (by kernel_rfl) (by kernel_rfl) (by kernel_rfl) (fun _ _ _ h => h) (Or.inl ⟨by rfl, ?_⟩) (by assumption) ?_
  rotate_left
  · (intro w hSw; (try dsimp only at hSw); go_simp) <;> with_reducible rfl
  try simp only [Act.put, List.setIfInBounds_toArray, List.set_cons_zero, List.set_cons_succ]
  refine wpAnyH_ready (rs := [24]) (by kernel_rfl) (by simp) ?_
  refine AllReadyH.cons (o := { dst := some 27, op := Op.call { callee := Callee.value (Operand.func 38), args := #[Operand.const (Value.int IntKind.u16 16), Operand.tmp 26], argTypes := #[77, 4] }, type := 77, pos := "fields.go:59", after := #[{ on := 23, ground := Ground.data }, { on := 19, ground := Ground.chain }], guard := none }) rfl (fun K hK => ?_) AllReadyH.nil
  go_simp
  refine (bitP_any _ _ _).mono ?_
  rintro _ _ ⟨rfl, rfl⟩
  refine hK.out _ _ (by assumption) (fun hHeld => ?_)
  clear hK K
  refine wpAnyH_take (i := 25) (oi := { dst := some 28, op := Op.binOp BinOp.or 77 (Operand.tmp 23) (Operand.tmp 27) 77, type := 77, pos := "fields.go:55", after := #[{ on := 20, ground := Ground.data }, { on := 24, ground := Ground.data }], guard := none }) (v := ?_) rfl (by kernel_rfl) (by kernel_rfl) (by kernel_rfl) (fun _ _ _ h => h) (Or.inl ⟨by rfl, ?_⟩) (by assumption) ?_
  rotate_left
  · (intro w hSw; (try dsimp only at hSw); go_simp) <;> with_reducible rfl
  try simp only [Act.put, List.setIfInBounds_toArray, List.set_cons_zero, List.set_cons_succ]
  refine wpAnyH_ready (rs := [30]) (by kernel_rfl) (by simp) ?_
  refine AllReadyH.cons (o := { dst := some 33, op := Op.call { callee := Callee.value (Operand.func 38), args := #[Operand.const (Value.int IntKind.u16 32), Operand.tmp 32], argTypes := #[77, 4] }, type := 77, pos := "fields.go:60", after := #[{ on := 29, ground := Ground.data }, { on := 24, ground := Ground.chain }], guard := none }) rfl (fun K hK => ?_) AllReadyH.nil
  go_simp
  refine (bitP_any _ _ _).mono ?_
  rintro _ _ ⟨rfl, rfl⟩
  refine hK.out _ _ (by assumption) (fun hHeld => ?_)
  clear hK K
  refine wpAnyH_take (i := 31) (oi := { dst := some 34, op := Op.binOp BinOp.or 77 (Operand.tmp 28) (Operand.tmp 33) 77, type := 77, pos := "fields.go:55", after := #[{ on := 25, ground := Ground.data }, { on := 30, ground := Ground.data }], guard := none }) (v := ?_) rfl (by kernel_rfl) (by kernel_rfl) (by kernel_rfl) (fun _ _ _ h => h) (Or.inl ⟨by rfl, ?_⟩) (by assumption) ?_
  rotate_left
  · (intro w hSw; (try dsimp only at hSw); go_simp) <;> with_reducible rfl
  try simp only [Act.put, List.setIfInBounds_toArray, List.set_cons_zero, List.set_cons_succ]
  refine wpAnyH_ready (rs := [36]) (by kernel_rfl) (by simp) ?_
  refine AllReadyH.cons (o := { dst := some 39, op := Op.call { callee := Callee.value (Operand.func 38), args := #[Operand.const (Value.int IntKind.u16 64), Operand.tmp 38], argTypes := #[77, 4] }, type := 77, pos := "fields.go:61", after := #[{ on := 35, ground := Ground.data }, { on := 30, ground := Ground.chain }], guard := none }) rfl (fun K hK => ?_) AllReadyH.nil
  go_simp
  refine (bitP_any _ _ _).mono ?_
  rintro _ _ ⟨rfl, rfl⟩
  refine hK.out _ _ (by assumption) (fun hHeld => ?_)
  clear hK K
  refine wpAnyH_take (i := 37) (oi := { dst := some 40, op := Op.binOp BinOp.or 77 (Operand.tmp 34) (Operand.tmp 39) 77, type := 77, pos := "fields.go:55", after := #[{ on := 31, ground := Ground.data }, { on := 36, ground := Ground.data }], guard := none }) (v := ?_) rfl (by kernel_rfl) (by kernel_rfl) (by kernel_rfl) (fun _ _ _ h => h) (Or.inl ⟨by rfl, ?_⟩) (by assumption) ?_
  rotate_left
  · (intro w hSw; (try dsimp only at hSw); go_simp) <;> with_reducible rfl
  try simp only [Act.put, List.setIfInBounds_toArray, List.set_cons_zero, List.set_cons_succ]
  refine wpAnyH_ready (rs := [40]) (by kernel_rfl) (by simp) ?_
  refine AllReadyH.cons (o := { dst := some 43, op := Op.call { callee := Callee.value (Operand.func 38), args := #[Operand.const (Value.int IntKind.u16 128), Operand.tmp 42], argTypes := #[77, 4] }, type := 77, pos := "fields.go:62", after := #[{ on := 39, ground := Ground.data }, { on := 36, ground := Ground.chain }], guard := none }) rfl (fun K hK => ?_) AllReadyH.nil
  go_simp
  refine (bitP_any _ _ _).mono ?_
  rintro _ _ ⟨rfl, rfl⟩
  refine hK.out _ _ (by assumption) (fun hHeld => ?_)
  clear hK K
  refine wpAnyH_take (i := 41) (oi := { dst := some 44, op := Op.binOp BinOp.or 77 (Operand.tmp 40) (Operand.tmp 43) 77, type := 77, pos := "fields.go:55", after := #[{ on := 37, ground := Ground.data }, { on := 40, ground := Ground.data }], guard := none }) (v := ?_) rfl (by kernel_rfl) (by kernel_rfl) (by kernel_rfl) (fun _ _ _ h => h) (Or.inl ⟨by rfl, ?_⟩) (by assumption) ?_
  rotate_left
  · (intro w hSw; (try dsimp only at hSw); go_simp) <;> with_reducible rfl
  try simp only [Act.put, List.setIfInBounds_toArray, List.set_cons_zero, List.set_cons_succ]
  refine wpAnyH_ready (rs := [44]) (by kernel_rfl) (by simp) ?_
  refine AllReadyH.cons (o := { dst := some 47, op := Op.call { callee := Callee.value (Operand.func 38), args := #[Operand.const (Value.int IntKind.u16 256), Operand.tmp 46], argTypes := #[77, 4] }, type := 77, pos := "fields.go:63", after := #[{ on := 43, ground := Ground.data }, { on := 40, ground := Ground.chain }], guard := none }) rfl (fun K hK => ?_) AllReadyH.nil
  go_simp
  refine (bitP_any _ _ _).mono ?_
  rintro _ _ ⟨rfl, rfl⟩
  refine hK.out _ _ (by assumption) (fun hHeld => ?_)
  clear hK K
  refine wpAnyH_take (i := 45) (oi := { dst := some 48, op := Op.binOp BinOp.or 77 (Operand.tmp 44) (Operand.tmp 47) 77, type := 77, pos := "fields.go:55", after := #[{ on := 41, ground := Ground.data }, { on := 44, ground := Ground.data }], guard := none }) (v := ?_) rfl (by kernel_rfl) (by kernel_rfl) (by kernel_rfl) (fun _ _ _ h => h) (Or.inl ⟨by rfl, ?_⟩) (by assumption) ?_
  rotate_left
  · (intro w hSw; (try dsimp only at hSw); go_simp) <;> with_reducible rfl
  try simp only [Act.put, List.setIfInBounds_toArray, List.set_cons_zero, List.set_cons_succ]
  refine wpAnyH_ready (rs := [49]) (by kernel_rfl) (by simp) ?_
  refine AllReadyH.cons (o := { dst := some 52, op := Op.call { callee := Callee.value (Operand.func 39), args := #[Operand.tmp 50, Operand.tmp 51], argTypes := #[37, 37] }, type := 4, pos := "fields.go:64", after := #[{ on := 47, ground := Ground.data }, { on := 48, ground := Ground.data }, { on := 44, ground := Ground.chain }], guard := none }) rfl (fun K hK => ?_) AllReadyH.nil
  go_simp
  refine (HSM.out _ HD.out.1).mono ?_
  rintro _ w1 ⟨rfl, b1⟩
  have HD1 : Hid (Below w.heap.size w w1 ∧ PkAt w1 w.heap.size p tc (.slice ao p.bys.length cap)) := ⟨HD.out.1.trans (b1.mono HD.out.1.size), HD.out.2.later b1 HD.out.2.lt⟩
  clear b1
  refine hK.out _ _ (HD1.out.2.held hl16) (fun hHeld => ?_)
  clear hK K
  refine wpAnyH_take (i := 50) (oi := { dst := some 53, op := Op.unOp UnOp.not 4 (Operand.tmp 52), type := 4, pos := "fields.go:55", after := #[{ on := 49, ground := Ground.data }], guard := none }) (v := ?_) rfl (by kernel_rfl) (by kernel_rfl) (by kernel_rfl) (fun _ _ _ h => h) (Or.inl ⟨by rfl, ?_⟩) (by assumption) ?_
  rotate_left
  · (intro w hSw; (try dsimp only at hSw); go_simp) <;> with_reducible rfl
  try simp only [Act.put, List.setIfInBounds_toArray, List.set_cons_zero, List.set_cons_succ]
  refine wpAnyH_ready (rs := [51]) (by kernel_rfl) (by simp) ?_
  refine AllReadyH.cons (o := { dst := some 54, op := Op.call { callee := Callee.value (Operand.func 38), args := #[Operand.const (Value.int IntKind.u16 512), Operand.tmp 53], argTypes := #[77, 4] }, type := 77, pos := "fields.go:64", after := #[{ on := 50, ground := Ground.data }, { on := 49, ground := Ground.chain }], guard := none }) rfl (fun K hK => ?_) AllReadyH.nil
  go_simp
  refine (bitP_any _ _ _).mono ?_
  rintro _ _ ⟨rfl, rfl⟩
  refine hK.out _ _ (by assumption) (fun hHeld => ?_)
  clear hK K
  refine wpAnyH_take (i := 52) (oi := { dst := some 55, op := Op.binOp BinOp.or 77 (Operand.tmp 48) (Operand.tmp 54) 77, type := 77, pos := "fields.go:55", after := #[{ on := 45, ground := Ground.data }, { on := 51, ground := Ground.data }], guard := none }) (v := ?_) rfl (by kernel_rfl) (by kernel_rfl) (by kernel_rfl) (fun _ _ _ h => h) (Or.inl ⟨by rfl, ?_⟩) (by assumption) ?_
  rotate_left
  · (intro w hSw; (try dsimp only at hSw); go_simp) <;> with_reducible rfl
  try simp only [Act.put, List.setIfInBounds_toArray, List.set_cons_zero, List.set_cons_succ]
  refine wpAnyH_ready (rs := [57]) (by kernel_rfl) (by simp) ?_
  refine AllReadyH.cons (o := { dst := some 60, op := Op.call { callee := Callee.value (Operand.func 38), args := #[Operand.const (Value.int IntKind.u16 1024), Operand.tmp 59], argTypes := #[77, 4] }, type := 77, pos := "fields.go:65", after := #[{ on := 56, ground := Ground.data }, { on := 51, ground := Ground.chain }], guard := none }) rfl (fun K hK => ?_) AllReadyH.nil
  go_simp
  refine (bitP_any _ _ _).mono ?_
  rintro _ _ ⟨rfl, rfl⟩
  refine hK.out _ _ (by assumption) (fun hHeld => ?_)
  clear hK K
  refine wpAnyH_take (i := 58) (oi := { dst := some 61, op := Op.binOp BinOp.or 77 (Operand.tmp 55) (Operand.tmp 60) 77, type := 77, pos := "fields.go:55", after := #[{ on := 52, ground := Ground.data }, { on := 57, ground := Ground.data }], guard := none }) (v := ?_) rfl (by kernel_rfl) (by kernel_rfl) (by kernel_rfl) (fun _ _ _ h => h) (Or.inl ⟨by rfl, ?_⟩) (by assumption) ?_
  rotate_left
  · (intro w hSw; (try dsimp only at hSw); go_simp) <;> with_reducible rfl
  try simp only [Act.put, List.setIfInBounds_toArray, List.set_cons_zero, List.set_cons_succ]
  refine wpAnyH_ready (rs := [62]) (by kernel_rfl) (by simp) ?_
  refine AllReadyH.cons (o := { dst := some 65, op := Op.call { callee := Callee.value (Operand.func 38), args := #[Operand.const (Value.int IntKind.u16 2048), Operand.tmp 64], argTypes := #[77, 4] }, type := 77, pos := "fields.go:66", after := #[{ on := 61, ground := Ground.data }, { on := 57, ground := Ground.chain }], guard := none }) rfl (fun K hK => ?_) AllReadyH.nil
  go_simp
  refine (bitP_any _ _ _).mono ?_
  rintro _ _ ⟨rfl, rfl⟩
  refine hK.out _ _ (by assumption) (fun hHeld => ?_)
  clear hK K
  refine wpAnyH_take (i := 63) (oi := { dst := some 66, op := Op.binOp BinOp.or 77 (Operand.tmp 61) (Operand.tmp 65) 77, type := 77, pos := "fields.go:55", after := #[{ on := 58, ground := Ground.data }, { on := 62, ground := Ground.data }], guard := none }) (v := ?_) rfl (by kernel_rfl) (by kernel_rfl) (by kernel_rfl) (fun _ _ _ h => h) (Or.inl ⟨by rfl, ?_⟩) (by assumption) ?_
  rotate_left
  · (intro w hSw; (try dsimp only at hSw); go_simp) <;> with_reducible rfl
  try simp only [Act.put, List.setIfInBounds_toArray, List.set_cons_zero, List.set_cons_succ]
  refine wpAnyH_take (i := 64) (oi := { dst := some 2, op := Op.assign (Operand.tmp 66), type := 77, pos := "fields.go:55", after := ([{ on := 63, ground := Ground.data }, { on := 62, ground := Ground.chain }, { on := 0, ground := Ground.phase }, { on := 1, ground := Ground.phase }, { on := 2, ground := Ground.phase }, { on := 3, ground := Ground.phase }, { on := 4, ground := Ground.phase }, { on := 5, ground := Ground.phase }, { on := 6, ground := Ground.phase }, { on := 7, ground := Ground.phase }, { on := 8, ground := Ground.phase }, { on := 9, ground := Ground.phase }, { on := 10, ground := Ground.phase }, { on := 11, ground := Ground.phase }, { on := 12, ground := Ground.phase }, { on := 13, ground := Ground.phase }, { on := 14, ground := Ground.phase }, { on := 15, ground := Ground.phase }, { on := 16, ground := Ground.phase }, { on := 17, ground := Ground.phase }, { on := 18, ground := Ground.phase }, { on := 19, ground := Ground.phase }, { on := 20, ground := Ground.phase }, { on := 21, ground := Ground.phase }, { on := 22, ground := Ground.phase }, { on := 23, ground := Ground.phase }, { on := 24, ground := Ground.phase }, { on := 25, ground := Ground.phase }, { on := 26, ground := Ground.phase }, { on := 27, ground := Ground.phase }, { on := 28, ground := Ground.phase }, { on := 29, ground := Ground.phase }, { on := 30, ground := Ground.phase }].append [{ on := 31, ground := Ground.phase }, { on := 32, ground := Ground.phase }, { on := 33, ground := Ground.phase }, { on := 34, ground := Ground.phase }, { on := 35, ground := Ground.phase }, { on := 36, ground := Ground.phase }, { on := 37, ground := Ground.phase }, { on := 38, ground := Ground.phase }, { on := 39, ground := Ground.phase }, { on := 40, ground := Ground.phase }, { on := 41, ground := Ground.phase }, { on := 42, ground := Ground.phase }, { on := 43, ground := Ground.phase }, { on := 44, ground := Ground.phase }, { on := 45, ground := Ground.phase }, { on := 46, ground := Ground.phase }, { on := 47, ground := Ground.phase }, { on := 48, ground := Ground.phase }, { on := 49, ground := Ground.phase }, { on := 50, ground := Ground.phase }, { on := 51, ground := Ground.phase }, { on := 52, ground := Ground.phase }, { on := 53, ground := Ground.phase }, { on := 54, ground := Ground.phase }, { on := 55, ground := Ground.phase }, { on := 56, ground := Ground.phase }, { on := 57, ground := Ground.phase }, { on := 58, ground := Ground.phase }, { on := 59, ground := Ground.phase }, { on := 60, ground := Ground.phase }, { on := 61, ground := Ground.phase }, { on := 62, ground := Ground.phase }, { on := 63, ground := Ground.phase }]).toArray, guard := none }) (v := ?_) rfl (by kernel_rfl) (by kernel_rfl) (by kernel_rfl) (fun _ _ _ h => h) (Or.inl ⟨by rfl, ?_⟩) (by assumption) ?_
  rotate_left
  · (intro w hSw; (try dsimp only at hSw); go_simp) <;> with_reducible rfl
  try simp only [Act.put, List.setIfInBounds_toArray, List.set_cons_zero, List.set_cons_succ]
  refine wpAnyH_done (by kernel_rfl) ?_ _
  go_wp2_with fail
  go_ret
  refine ⟨?_, HD1.out.1⟩
  rw [HC.out]
  unfold fillP
  rw [← HF.out.1, ← HF.out.2.1, ← HF.out.2.2.1, ← HF.out.2.2.2]
  rfl
end Go.Proofs.YtgjjcmhlmdfccaaGreatDoor
