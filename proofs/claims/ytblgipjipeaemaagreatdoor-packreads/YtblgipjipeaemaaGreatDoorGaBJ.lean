/- should of the statements: asking. -/
import Derived.Test.YtblgipjipeaemaaGreatDoorGaAJ
import Derived.Deep.RegionHeld
namespace Go.Proofs.YtblgipjipeaemaaGreatDoor
open Go.RowKit
set_option maxRecDepth 8000

section
variable (g : Nat) (v : Value) (bs : List Int) (p : Nat) (f on n : Int) (x : Nat) (s : ByteArray) (ao : Option Addr) (l cap : Nat) (w : World)

set_option maxHeartbeats 1000000 in
theorem should_ask (h : IsQ w g v bs p f) :
    Calls Tryz.prog 20 #[.pointer (some ⟨g, 0, none⟩), opv 10 on n x s (.slice ao l cap)] w fun e w' => e = .returned (.agg (told false ((bs.drop p).length : Nat) 0 ⟨#[]⟩ (.slice none 0 0) f (if f ≠ 0 then f else if bs.drop p = [] then 0 else 13))) ∧ QTo w g v bs ⟨0, bs.drop p, f⟩ w' := by
  have hsf := store_float
  obtain ⟨E0, hE0⟩ : ∃ E0 : Int, E0 = (if f ≠ 0 then f else if bs.drop p = [] then 0 else 13) := ⟨_, rfl⟩
  obtain ⟨Z, hZ⟩ : ∃ Z : Nat, Z = (bs.drop p).length := ⟨_, rfl⟩
  obtain ⟨V, eV⟩ : ∃ V, V = (w.alloc (opc 10 on n x s (.slice ao l cap))).alloc told0 := ⟨_, rfl⟩
  have hq : IsQ V g v bs p f := by rw [eV]; exact (h.alloc _).alloc _
  have hp : QTo ((w.alloc (opc 10 on n x s (.slice ao l cap))).alloc told0) g v bs ⟨0, bs.drop p, f⟩ V := by rw [eV]; exact QTo.stay ((h.alloc _).alloc _) 0
  have hb0 := toldQ_kept h hp
  have HG : Hid (g < w.heap.size) := lt_of_block h.1
  have HSt : Hid (∀ V', Kept V V' (fun _ => False) → V'.cell? ⟨g, 2, none⟩ = some (.int .i64 f) ∧ (Calls Tryz.prog 25 #[.pointer (some ⟨g, 0, none⟩)] V' fun e w' => e = .returned (.int .i64 (Z : Nat)) ∧ ∃ m, w' = V'.drewN m) ∧ (Calls Tryz.prog 26 #[.pointer (some ⟨g, 0, none⟩)] V' fun e w' => e = .returned (.int .i64 E0) ∧ ∃ m, w' = V'.drewN m) ∧ V'.heap[w.heap.size + 1]? = some told0) := fun V' hk => by
    have hq' := hq.kept hk (fun h => h) (fun _ _ h => h)
    have q2 := qEnd_any g v bs p f V' hq'
    rw [← hE0] at q2
    have q1 := qLeft_any g v bs p f V' hq'
    rw [← hZ] at q1
    exact ⟨hq'.c2, q1, q2, hk.heap hb0 (fun h => h)⟩
  have HP : Hid (∀ V', Kept V V' (fun _ => False) → QTo ((w.alloc (opc 10 on n x s (.slice ao l cap))).alloc told0) g v bs ⟨0, bs.drop p, f⟩ V') := fun V' hk => by
    obtain ⟨p2, e2, q2, k2⟩ := hp
    exact ⟨p2, e2, q2.kept hk (fun h => h) (fun _ _ h => h), k2.trans hk (fun _ _ h => h.elim)⟩
  have HKc : Hid (Kept V V.drew (fun _ => False)) := (Kept.refl V _).drewN 1
  have HE : Hid _ := eV
  rw [← hE0, ← hZ]
  clear h hq hp hb0 eV hE0 hZ
  go_enter Tryz.func20, Tryz.ntmps20
  go_upto_region 21 with fail
  rw [← HE.out]
  clear HE
  refine wp_region_held_drew (S := fun V' => V'.cell? ⟨g, 2, none⟩ = some (.int .i64 f)) (by kernel_rfl) ?_ (fun hHeld => ?_)
  · exact (HSt.out _ HKc.out).1
  refine wpAnyH_take (i := 0) (oi := { dst := some 66, op := Op.move (Operand.tmp 0), type := 32, pos := "law.go:224", after := #[], guard := none }) (v := ?_) rfl (by kernel_rfl) (by kernel_rfl) (by kernel_rfl) (fun _ _ _ h => h) (Or.inl ⟨by rfl, ?_⟩) (by assumption) ?_
  rotate_left
  · (intro w hSw; (try dsimp only at hSw); go_simp) <;> with_reducible rfl
  try simp only [Act.put, List.setIfInBounds_toArray, List.set_cons_zero, List.set_cons_succ]
  refine wpAnyH_take (i := 2) (oi := { dst := some 68, op := Op.move (Operand.tmp 0), type := 32, pos := "law.go:224", after := #[], guard := none }) (v := ?_) rfl (by kernel_rfl) (by kernel_rfl) (by kernel_rfl) (fun _ _ _ h => h) (Or.inl ⟨by rfl, ?_⟩) (by assumption) ?_
  rotate_left
  · (intro w hSw; (try dsimp only at hSw); go_simp) <;> with_reducible rfl
  try simp only [Act.put, List.setIfInBounds_toArray, List.set_cons_zero, List.set_cons_succ]
  refine wpAnyH_take (i := 3) (oi := { dst := some 69, op := Op.nilCheck (Operand.tmp 68), type := 0, pos := "law.go:224", after := #[{ on := 2, ground := Ground.data }], guard := none }) (v := ?_) rfl (by kernel_rfl) (by kernel_rfl) (by kernel_rfl) (fun _ _ _ h => h) (Or.inl ⟨by rfl, ?_⟩) (by assumption) ?_
  rotate_left
  · (intro w hSw; (try dsimp only at hSw); go_simp) <;> with_reducible rfl
  try simp only [Act.put, List.setIfInBounds_toArray, List.set_cons_zero, List.set_cons_succ]
  refine wpAnyH_take (i := 4) (oi := { dst := some 70, op := Op.fieldAddr 83 (Operand.tmp 69) 2, type := 0, pos := "law.go:224", after := #[{ on := 3, ground := Ground.data }], guard := none }) (v := ?_) rfl (by kernel_rfl) (by kernel_rfl) (by kernel_rfl) (fun _ _ _ h => h) (Or.inl ⟨by rfl, ?_⟩) (by assumption) ?_
  rotate_left
  · (intro w hSw; (try dsimp only at hSw); go_simp) <;> with_reducible rfl
  try simp only [Act.put, List.setIfInBounds_toArray, List.set_cons_zero, List.set_cons_succ]
  refine wpAnyH_take (i := 5) (oi := { dst := some 71, op := Op.load 47 (Operand.tmp 70), type := 47, pos := "law.go:224", after := #[{ on := 4, ground := Ground.data }], guard := none }) (v := ?_) rfl (by kernel_rfl) (by kernel_rfl) (by kernel_rfl) (fun _ _ _ h => h) (Or.inl ⟨by rfl, ?_⟩) (by assumption) ?_
  rotate_left
  · (intro w hSw; (try dsimp only at hSw); go_simp) <;> with_reducible rfl
  try simp only [Act.put, List.setIfInBounds_toArray, List.set_cons_zero, List.set_cons_succ]
  refine wpAnyH_take (i := 6) (oi := { dst := some 72, op := Op.move (Operand.tmp 0), type := 32, pos := "law.go:224", after := #[], guard := none }) (v := ?_) rfl (by kernel_rfl) (by kernel_rfl) (by kernel_rfl) (fun _ _ _ h => h) (Or.inl ⟨by rfl, ?_⟩) (by assumption) ?_
  rotate_left
  · (intro w hSw; (try dsimp only at hSw); go_simp) <;> with_reducible rfl
  try simp only [Act.put, List.setIfInBounds_toArray, List.set_cons_zero, List.set_cons_succ]
  refine wpAnyH_ready (rs := [1]) (by kernel_rfl) (by simp) ?_
  refine AllReadyH.cons (o := { dst := some 67, op := Op.call { callee := Callee.value (Operand.func 25), args := #[Operand.tmp 66], argTypes := #[32] }, type := 3, pos := "law.go:224", after := #[{ on := 0, ground := Ground.data }], guard := none }) rfl (fun K hK => ?_) AllReadyH.nil
  go_simp
  refine Calls.mono ((HSt.out _ HKc.out).2.1) ?_
  rintro e wa ⟨rfl, n0, hwc⟩
  have HKd : Hid (Kept V wa (fun _ => False)) := by rw [hwc]; exact HKc.out.drewN n0
  clear hHeld HKc hwc
  have HKc := HKd
  clear HKd
  refine hK.out _ _ (HSt.out _ HKc.out).1 (fun hHeld => ?_)
  clear hK K
  refine wpAnyH_ready (rs := [7]) (by kernel_rfl) (by simp) ?_
  refine AllReadyH.cons (o := { dst := some 73, op := Op.call { callee := Callee.value (Operand.func 26), args := #[Operand.tmp 72], argTypes := #[32] }, type := 47, pos := "law.go:224", after := #[{ on := 6, ground := Ground.data }, { on := 1, ground := Ground.chain }], guard := none }) rfl (fun K hK => ?_) AllReadyH.nil
  go_simp
  refine Calls.mono ((HSt.out _ HKc.out).2.2.1) ?_
  rintro e wb ⟨rfl, n0, hwc⟩
  have HKd : Hid (Kept V wb (fun _ => False)) := by rw [hwc]; exact HKc.out.drewN n0
  clear hHeld HKc hwc
  have HKc := HKd
  clear HKd
  have hbox := (HSt.out _ HKc.out).2.2.2
  obtain ⟨k0, k1, k2, k3, k4, k5, k6, kf⟩ := row7 hbox
  refine hK.out _ _ (HSt.out _ HKc.out).1 (fun hHeld => ?_)
  clear hK K
  refine wpAnyH_take (i := 8) (oi := { dst := some 74, op := Op.build 74 #[(0, Operand.tmp 71), (1, Operand.tmp 73)], type := 74, pos := "law.go:224", after := #[{ on := 5, ground := Ground.data }, { on := 7, ground := Ground.data }], guard := none }) (v := ?_) rfl (by kernel_rfl) (by kernel_rfl) (by kernel_rfl) (fun _ _ _ h => h) (Or.inl ⟨by rfl, ?_⟩) (by assumption) ?_
  rotate_left
  · (intro w hSw; (try dsimp only at hSw); go_simp) <;> with_reducible rfl
  try simp only [Act.put, List.setIfInBounds_toArray, List.set_cons_zero, List.set_cons_succ]
  refine wpAnyH_take (i := 9) (oi := { dst := some 75, op := Op.build 76 #[(1, Operand.tmp 67), (5, Operand.tmp 74)], type := 76, pos := "law.go:224", after := #[{ on := 1, ground := Ground.data }, { on := 8, ground := Ground.data }], guard := none }) (v := ?_) rfl (by kernel_rfl) (by kernel_rfl) (by kernel_rfl) (fun _ _ _ h => h) (Or.inl ⟨by rfl, ?_⟩) (by assumption) ?_
  rotate_left
  · (intro w hSw; (try dsimp only at hSw); go_simp) <;> with_reducible rfl
  try simp only [Act.put, List.setIfInBounds_toArray, List.set_cons_zero, List.set_cons_succ]
  refine wpAnyH_ready (rs := [10]) (by kernel_rfl) (by simp) ?_
  refine AllReadyH.cons (o := { dst := none, op := Op.store 76 (Operand.tmp 4) (Operand.tmp 75), type := 0, pos := "law.go:224", after := #[{ on := 9, ground := Ground.data }, { on := 7, ground := Ground.chain }, { on := 0, ground := Ground.phase }, { on := 1, ground := Ground.phase }, { on := 2, ground := Ground.phase }, { on := 3, ground := Ground.phase }, { on := 4, ground := Ground.phase }, { on := 5, ground := Ground.phase }, { on := 6, ground := Ground.phase }, { on := 7, ground := Ground.phase }, { on := 8, ground := Ground.phase }, { on := 9, ground := Ground.phase }], guard := none }) rfl (fun K hK => ?_) AllReadyH.nil
  go_simp
  clear hHeld
  have hS2 : ((((((((wb.setCell ⟨w.heap.size + 1, 0, none⟩ (.bool false)).setCell ⟨w.heap.size + 1, 1, none⟩ (.int .i64 (Z : Nat))).setCell ⟨w.heap.size + 1, 2, none⟩ (.float .f64 0)).setCell ⟨w.heap.size + 1, 3, none⟩ (.string ⟨#[]⟩)).setCell ⟨w.heap.size + 1, 4, none⟩ (.slice none 0 0)).setCell ⟨w.heap.size + 1, 5, none⟩ (.int .i64 f)).setCell ⟨w.heap.size + 1, 6, none⟩ (.int .i64 E0))).cell? ⟨g, 2, none⟩ = some (.int .i64 f) := (setsT (w1 := wb) (w.heap.size + 1) _ _ _ _ _ _ _).cell (HSt.out _ HKc.out).1 (fun e => by have := HG.out; simp at e; omega)
  refine hK.out _ _ hS2 (fun hHeld => ?_)
  clear hS2
  clear hK K
  refine wpAnyH_done (by kernel_rfl) ?_ _
  clear hHeld
  go_wp2
  exact gotQ _ _ _ _ _ _ _ hbox rfl rfl ⟨rfl, (HP.out _ HKc.out).told HG.out hbox _ _ _ _ _ _ _⟩
end
end Go.Proofs.YtblgipjipeaemaaGreatDoor
