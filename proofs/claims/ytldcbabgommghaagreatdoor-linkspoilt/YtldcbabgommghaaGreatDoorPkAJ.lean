/- What txn.Check answers, for every transaction. -/
import Derived.Test.YtldcbabgommghaaGreatDoorChk5J
import Derived.Deep.CutRange
import Derived.Deep.DeepCutAuto
namespace Go.Proofs.YtldcbabgommghaaGreatDoor
open Go.RowKit
set_option maxRecDepth 8000

section
variable (e n sv bt nm k : Int) (s : ByteArray) (da aa wa oa : Option Addr) (dl dc al ac wl wc ol oc : Nat) (ver : Int) (eph seq : Bool) (ses tmo : Int) (w : World) (h0 : 0 ≤ e) (h2 : 0 ≤ n)
include h0 h2

set_option maxHeartbeats 4000000 in
theorem check_1 (hz : zxOk e n = false) :
    Calls Tryz.prog 128 #[.agg #[.int .u32 e, .int .u32 n, .int .i8 sv, .int .u32 bt, .int .i64 nm, .int .i8 k, .string s, .slice da dl dc, .slice aa al ac, .int .i32 ver, .bool eph, .bool seq, .int .i64 ses, .int .i32 tmo, .slice wa wl wc, .slice oa ol oc]] w fun r w' => r = .returned (.int .i64 40) ∧ Below w.heap.size w w' := by
  have HZ : Hid (∀ W : World, Calls Tryz.prog 135 #[.agg #[.int .u32 e, .int .u32 n]] W fun r w' => r = .returned (.bool false) ∧ Below W.heap.size W w') := fun W => by
    rw [← hz]; exact isZxid_any e n W h0 h2
  have HL : Hid (∀ o : Obj, Below w.heap.size w (w.alloc o).drew) := fun o => below_drewN (one_alloc w o) 1
  clear hz h0 h2
  go_enter Tryz.func128, Tryz.ntmps128
  go_wp2_with fail
  generalize eW0 : (w.alloc (.cells #[.int .u32 e, .int .u32 n, .int .i8 sv, .int .u32 bt, .int .i64 nm, .int .i8 k, .string s, .slice da dl dc, .slice aa al ac, .int .i32 ver, .bool eph, .bool seq, .int .i64 ses, .int .i32 tmo, .slice wa wl wc, .slice oa ol oc] 37)) = W0
  have k0 : W0.drew.cell? ⟨w.heap.size, 0, none⟩ = some (.int .u32 e) ∧ W0.drew.cell? ⟨w.heap.size, 1, none⟩ = some (.int .u32 n) ∧ W0.drew.cell? ⟨w.heap.size, 2, none⟩ = some (.int .i8 sv) ∧ W0.drew.cell? ⟨w.heap.size, 3, none⟩ = some (.int .u32 bt) ∧ W0.drew.cell? ⟨w.heap.size, 4, none⟩ = some (.int .i64 nm) ∧ W0.drew.cell? ⟨w.heap.size, 5, none⟩ = some (.int .i8 k) ∧ W0.drew.cell? ⟨w.heap.size, 6, none⟩ = some (.string s) ∧ W0.drew.cell? ⟨w.heap.size, 7, none⟩ = some (.slice da dl dc) ∧ W0.drew.cell? ⟨w.heap.size, 8, none⟩ = some (.slice aa al ac) ∧ W0.drew.cell? ⟨w.heap.size, 9, none⟩ = some (.int .i32 ver) ∧ W0.drew.cell? ⟨w.heap.size, 10, none⟩ = some (.bool eph) ∧ W0.drew.cell? ⟨w.heap.size, 11, none⟩ = some (.bool seq) ∧ W0.drew.cell? ⟨w.heap.size, 12, none⟩ = some (.int .i64 ses) ∧ W0.drew.cell? ⟨w.heap.size, 13, none⟩ = some (.int .i32 tmo) ∧ W0.drew.cell? ⟨w.heap.size, 14, none⟩ = some (.slice wa wl wc) ∧ W0.drew.cell? ⟨w.heap.size, 15, none⟩ = some (.slice oa ol oc) := by
    subst eW0
    refine ⟨?_, ?_, ?_, ?_, ?_, ?_, ?_, ?_, ?_, ?_, ?_, ?_, ?_, ?_, ?_, ?_⟩ <;> (show World.cell? (w.alloc _) _ = _; rw [cell_of_row _ _ _ _ _ _ (heap_alloc_new _ _)]; rfl)
  have HG0 : Hid (Below w.heap.size w W0.drew) := by subst eW0; exact HL.out _
  have HK0 : Hid _ := k0
  clear HL eW0 k0
  refine wp_region_held_drew (S := fun w' => w'.cell? ⟨w.heap.size, 0, none⟩ = some (.int .u32 e) ∧ w'.cell? ⟨w.heap.size, 1, none⟩ = some (.int .u32 n) ∧ w'.cell? ⟨w.heap.size, 2, none⟩ = some (.int .i8 sv) ∧ w'.cell? ⟨w.heap.size, 3, none⟩ = some (.int .u32 bt) ∧ w'.cell? ⟨w.heap.size, 4, none⟩ = some (.int .i64 nm) ∧ w'.cell? ⟨w.heap.size, 5, none⟩ = some (.int .i8 k) ∧ w'.cell? ⟨w.heap.size, 6, none⟩ = some (.string s) ∧ w'.cell? ⟨w.heap.size, 7, none⟩ = some (.slice da dl dc) ∧ w'.cell? ⟨w.heap.size, 8, none⟩ = some (.slice aa al ac) ∧ w'.cell? ⟨w.heap.size, 9, none⟩ = some (.int .i32 ver) ∧ w'.cell? ⟨w.heap.size, 10, none⟩ = some (.bool eph) ∧ w'.cell? ⟨w.heap.size, 11, none⟩ = some (.bool seq) ∧ w'.cell? ⟨w.heap.size, 12, none⟩ = some (.int .i64 ses) ∧ w'.cell? ⟨w.heap.size, 13, none⟩ = some (.int .i32 tmo) ∧ w'.cell? ⟨w.heap.size, 14, none⟩ = some (.slice wa wl wc) ∧ w'.cell? ⟨w.heap.size, 15, none⟩ = some (.slice oa ol oc)) (by kernel_rfl) HK0.out (fun hHeld => ?_)
  refine tkV 0 (v := ?_) rfl (Or.inl ⟨by rfl, ?_⟩) ?_
  rotate_left
  · (intro w hSw; (try dsimp only at hSw); go_simp) <;> with_reducible rfl
  try simp only [Act.put, sA, sB, sC]
  refine tkV 1 (v := ?_) rfl (Or.inl ⟨by rfl, ?_⟩) ?_
  rotate_left
  · (intro w hSw; (try dsimp only at hSw); go_simp) <;> with_reducible rfl
  try simp only [Act.put, sA, sB, sC]
  refine wpAnyH_ready (rs := [2]) (by kernel_rfl) (by simp) ?_
  refine acV 2 rfl (fun K hK => ?_) AllReadyH.nil
  go_simp
  refine (HZ.out _).mono ?_
  rintro r w1 ⟨rfl, g1⟩
  have HG1 : Hid (Below w.heap.size w w1) := HG0.out.trans (g1.mono HG0.out.size)
  have HK1 : Hid _ := keep16 g1 HK0.out
  clear g1 hHeld
  refine hK.out _ _ HK1.out (fun hHeld => ?_)
  clear hK K
  refine tkV 3 (v := ?_) rfl (Or.inl ⟨by rfl, ?_⟩) ?_
  rotate_left
  · (intro w hSw; (try dsimp only at hSw); go_simp) <;> with_reducible rfl
  try simp only [Act.put, sA, sB, sC]
  refine tkV 4 (v := ?_) rfl (Or.inl ⟨by rfl, ?_⟩) ?_
  rotate_left
  · (intro w hSw; (try dsimp only at hSw); go_simp) <;> with_reducible rfl
  try simp only [Act.put, sA, sB, sC]
  refine tkV 5 (v := undef) rfl (Or.inr ⟨by rfl, rfl⟩) ?_
  try simp only [Act.put, sA, sB, sC]
  refine tkV 6 (v := undef) rfl (Or.inr ⟨by rfl, rfl⟩) ?_
  try simp only [Act.put, sA, sB, sC]
  refine wpAnyH_ready (rs := [7]) (by kernel_rfl) (by simp) ?_
  refine acV 7 rfl (fun K hK => ?_) AllReadyH.nil
  go_simp
  refine hK.out _ _ (by assumption) (fun _ => ?_)
  clear hK K
  refine tkV 8 (v := undef) rfl (Or.inr ⟨by rfl, rfl⟩) ?_
  try simp only [Act.put, sA, sB, sC]
  refine tkV 9 (v := ?_) rfl (Or.inl ⟨by rfl, ?_⟩) ?_
  rotate_left
  · (intro w hSw; (try dsimp only at hSw); go_simp) <;> with_reducible rfl
  try simp only [Act.put, sA, sB, sC]
  refine tkV 10 (v := ?_) rfl (Or.inl ⟨by rfl, ?_⟩) ?_
  rotate_left
  · (intro w hSw; (try dsimp only at hSw); go_simp) <;> with_reducible rfl
  try simp only [Act.put, sA, sB, sC]
  refine tkV 12 (v := undef) rfl (Or.inr ⟨by rfl, rfl⟩) ?_
  try simp only [Act.put, sA, sB, sC]
  refine tkV 13 (v := undef) rfl (Or.inr ⟨by rfl, rfl⟩) ?_
  try simp only [Act.put, sA, sB, sC]
  refine wpAnyH_ready (rs := [11]) (by kernel_rfl) (by simp) ?_
  refine acV 11 rfl (fun K hK => ?_) AllReadyH.nil
  go_simp
  refine hK.out _ _ (by assumption) (fun _ => ?_)
  clear hK K
  refine wpAnyH_ready (rs := [14]) (by kernel_rfl) (by simp) ?_
  refine acV 14 rfl (fun K hK => ?_) AllReadyH.nil
  go_simp
  refine hK.out _ _ (by assumption) (fun _ => ?_)
  clear hK K
  refine tkV 15 (v := undef) rfl (Or.inr ⟨by rfl, rfl⟩) ?_
  try simp only [Act.put, sA, sB, sC]
  refine tkV 16 (v := ?_) rfl (Or.inl ⟨by rfl, ?_⟩) ?_
  rotate_left
  · (intro w hSw; (try dsimp only at hSw); go_simp) <;> with_reducible rfl
  try simp only [Act.put, sA, sB, sC]
  refine wpAnyH_done (by kernel_rfl) ?_ _
  go_wp2_with fail
  go_ret
  exact ⟨rfl, HG1.out⟩

set_option maxHeartbeats 4000000 in
theorem check_2 (hz : zxOk e n = true) (hO : origOk sv nm = false) :
    Calls Tryz.prog 128 #[.agg #[.int .u32 e, .int .u32 n, .int .i8 sv, .int .u32 bt, .int .i64 nm, .int .i8 k, .string s, .slice da dl dc, .slice aa al ac, .int .i32 ver, .bool eph, .bool seq, .int .i64 ses, .int .i32 tmo, .slice wa wl wc, .slice oa ol oc]] w fun r w' => r = .returned (.int .i64 40) ∧ Below w.heap.size w w' := by
  have HZ : Hid (∀ W : World, Calls Tryz.prog 135 #[.agg #[.int .u32 e, .int .u32 n]] W fun r w' => r = .returned (.bool true) ∧ Below W.heap.size W w') := fun W => by
    rw [← hz]; exact isZxid_any e n W h0 h2
  have HO : Hid (∀ W : World, Calls Tryz.prog 136 #[.agg #[.int .i8 sv, .int .u32 bt, .int .i64 nm]] W fun r w' => r = .returned (.bool false) ∧ Below W.heap.size W w') := fun W => by
    rw [← hO]; exact isOrigin_any sv bt nm W
  have HL : Hid (∀ o : Obj, Below w.heap.size w (w.alloc o).drew) := fun o => below_drewN (one_alloc w o) 1
  clear hz hO h0 h2
  go_enter Tryz.func128, Tryz.ntmps128
  go_wp2_with fail
  generalize eW0 : (w.alloc (.cells #[.int .u32 e, .int .u32 n, .int .i8 sv, .int .u32 bt, .int .i64 nm, .int .i8 k, .string s, .slice da dl dc, .slice aa al ac, .int .i32 ver, .bool eph, .bool seq, .int .i64 ses, .int .i32 tmo, .slice wa wl wc, .slice oa ol oc] 37)) = W0
  have k0 : W0.drew.cell? ⟨w.heap.size, 0, none⟩ = some (.int .u32 e) ∧ W0.drew.cell? ⟨w.heap.size, 1, none⟩ = some (.int .u32 n) ∧ W0.drew.cell? ⟨w.heap.size, 2, none⟩ = some (.int .i8 sv) ∧ W0.drew.cell? ⟨w.heap.size, 3, none⟩ = some (.int .u32 bt) ∧ W0.drew.cell? ⟨w.heap.size, 4, none⟩ = some (.int .i64 nm) ∧ W0.drew.cell? ⟨w.heap.size, 5, none⟩ = some (.int .i8 k) ∧ W0.drew.cell? ⟨w.heap.size, 6, none⟩ = some (.string s) ∧ W0.drew.cell? ⟨w.heap.size, 7, none⟩ = some (.slice da dl dc) ∧ W0.drew.cell? ⟨w.heap.size, 8, none⟩ = some (.slice aa al ac) ∧ W0.drew.cell? ⟨w.heap.size, 9, none⟩ = some (.int .i32 ver) ∧ W0.drew.cell? ⟨w.heap.size, 10, none⟩ = some (.bool eph) ∧ W0.drew.cell? ⟨w.heap.size, 11, none⟩ = some (.bool seq) ∧ W0.drew.cell? ⟨w.heap.size, 12, none⟩ = some (.int .i64 ses) ∧ W0.drew.cell? ⟨w.heap.size, 13, none⟩ = some (.int .i32 tmo) ∧ W0.drew.cell? ⟨w.heap.size, 14, none⟩ = some (.slice wa wl wc) ∧ W0.drew.cell? ⟨w.heap.size, 15, none⟩ = some (.slice oa ol oc) := by
    subst eW0
    refine ⟨?_, ?_, ?_, ?_, ?_, ?_, ?_, ?_, ?_, ?_, ?_, ?_, ?_, ?_, ?_, ?_⟩ <;> (show World.cell? (w.alloc _) _ = _; rw [cell_of_row _ _ _ _ _ _ (heap_alloc_new _ _)]; rfl)
  have HG0 : Hid (Below w.heap.size w W0.drew) := by subst eW0; exact HL.out _
  have HK0 : Hid _ := k0
  clear HL eW0 k0
  refine wp_region_held_drew (S := fun w' => w'.cell? ⟨w.heap.size, 0, none⟩ = some (.int .u32 e) ∧ w'.cell? ⟨w.heap.size, 1, none⟩ = some (.int .u32 n) ∧ w'.cell? ⟨w.heap.size, 2, none⟩ = some (.int .i8 sv) ∧ w'.cell? ⟨w.heap.size, 3, none⟩ = some (.int .u32 bt) ∧ w'.cell? ⟨w.heap.size, 4, none⟩ = some (.int .i64 nm) ∧ w'.cell? ⟨w.heap.size, 5, none⟩ = some (.int .i8 k) ∧ w'.cell? ⟨w.heap.size, 6, none⟩ = some (.string s) ∧ w'.cell? ⟨w.heap.size, 7, none⟩ = some (.slice da dl dc) ∧ w'.cell? ⟨w.heap.size, 8, none⟩ = some (.slice aa al ac) ∧ w'.cell? ⟨w.heap.size, 9, none⟩ = some (.int .i32 ver) ∧ w'.cell? ⟨w.heap.size, 10, none⟩ = some (.bool eph) ∧ w'.cell? ⟨w.heap.size, 11, none⟩ = some (.bool seq) ∧ w'.cell? ⟨w.heap.size, 12, none⟩ = some (.int .i64 ses) ∧ w'.cell? ⟨w.heap.size, 13, none⟩ = some (.int .i32 tmo) ∧ w'.cell? ⟨w.heap.size, 14, none⟩ = some (.slice wa wl wc) ∧ w'.cell? ⟨w.heap.size, 15, none⟩ = some (.slice oa ol oc)) (by kernel_rfl) HK0.out (fun hHeld => ?_)
  refine tkV 0 (v := ?_) rfl (Or.inl ⟨by rfl, ?_⟩) ?_
  rotate_left
  · (intro w hSw; (try dsimp only at hSw); go_simp) <;> with_reducible rfl
  try simp only [Act.put, sA, sB, sC]
  refine tkV 1 (v := ?_) rfl (Or.inl ⟨by rfl, ?_⟩) ?_
  rotate_left
  · (intro w hSw; (try dsimp only at hSw); go_simp) <;> with_reducible rfl
  try simp only [Act.put, sA, sB, sC]
  refine wpAnyH_ready (rs := [2]) (by kernel_rfl) (by simp) ?_
  refine acV 2 rfl (fun K hK => ?_) AllReadyH.nil
  go_simp
  refine (HZ.out _).mono ?_
  rintro r w1 ⟨rfl, g1⟩
  have HG1 : Hid (Below w.heap.size w w1) := HG0.out.trans (g1.mono HG0.out.size)
  have HK1 : Hid _ := keep16 g1 HK0.out
  clear g1 hHeld
  refine hK.out _ _ HK1.out (fun hHeld => ?_)
  clear hK K
  refine tkV 3 (v := ?_) rfl (Or.inl ⟨by rfl, ?_⟩) ?_
  rotate_left
  · (intro w hSw; (try dsimp only at hSw); go_simp) <;> with_reducible rfl
  try simp only [Act.put, sA, sB, sC]
  refine tkV 4 (v := ?_) rfl (Or.inl ⟨by rfl, ?_⟩) ?_
  rotate_left
  · (intro w hSw; (try dsimp only at hSw); go_simp) <;> with_reducible rfl
  try simp only [Act.put, sA, sB, sC]
  refine tkV 5 (v := ?_) rfl (Or.inl ⟨by rfl, ?_⟩) ?_
  rotate_left
  · (intro w hSw; (try dsimp only at hSw); go_simp) <;> with_reducible rfl
  try simp only [Act.put, sA, sB, sC]
  refine tkV 6 (v := ?_) rfl (Or.inl ⟨by rfl, ?_⟩) ?_
  rotate_left
  · (intro w hSw; (try dsimp only at hSw); go_simp) <;> with_reducible rfl
  try simp only [Act.put, sA, sB, sC]
  refine wpAnyH_ready (rs := [7]) (by kernel_rfl) (by simp) ?_
  refine acV 7 rfl (fun K hK => ?_) AllReadyH.nil
  go_simp
  refine (HO.out _).mono ?_
  rintro r w2 ⟨rfl, g2⟩
  have HG2 : Hid (Below w.heap.size w w2) := HG1.out.trans (g2.mono HG1.out.size)
  have HK2 : Hid _ := keep16 g2 HK1.out
  clear g2 hHeld
  refine hK.out _ _ HK2.out (fun hHeld => ?_)
  clear hK K
  refine tkV 8 (v := ?_) rfl (Or.inl ⟨by rfl, ?_⟩) ?_
  rotate_left
  · (intro w hSw; (try dsimp only at hSw); go_simp) <;> with_reducible rfl
  try simp only [Act.put, sA, sB, sC]
  refine tkV 9 (v := ?_) rfl (Or.inl ⟨by rfl, ?_⟩) ?_
  rotate_left
  · (intro w hSw; (try dsimp only at hSw); go_simp) <;> with_reducible rfl
  try simp only [Act.put, sA, sB, sC]
  refine tkV 10 (v := ?_) rfl (Or.inl ⟨by rfl, ?_⟩) ?_
  rotate_left
  · (intro w hSw; (try dsimp only at hSw); go_simp) <;> with_reducible rfl
  try simp only [Act.put, sA, sB, sC]
  refine tkV 12 (v := undef) rfl (Or.inr ⟨by rfl, rfl⟩) ?_
  try simp only [Act.put, sA, sB, sC]
  refine tkV 13 (v := undef) rfl (Or.inr ⟨by rfl, rfl⟩) ?_
  try simp only [Act.put, sA, sB, sC]
  refine wpAnyH_ready (rs := [11]) (by kernel_rfl) (by simp) ?_
  refine acV 11 rfl (fun K hK => ?_) AllReadyH.nil
  go_simp
  refine hK.out _ _ (by assumption) (fun _ => ?_)
  clear hK K
  refine wpAnyH_ready (rs := [14]) (by kernel_rfl) (by simp) ?_
  refine acV 14 rfl (fun K hK => ?_) AllReadyH.nil
  go_simp
  refine hK.out _ _ (by assumption) (fun _ => ?_)
  clear hK K
  refine tkV 15 (v := undef) rfl (Or.inr ⟨by rfl, rfl⟩) ?_
  try simp only [Act.put, sA, sB, sC]
  refine tkV 16 (v := ?_) rfl (Or.inl ⟨by rfl, ?_⟩) ?_
  rotate_left
  · (intro w hSw; (try dsimp only at hSw); go_simp) <;> with_reducible rfl
  try simp only [Act.put, sA, sB, sC]
  refine wpAnyH_done (by kernel_rfl) ?_ _
  go_wp2_with fail
  go_ret
  exact ⟨rfl, HG2.out⟩

end

/-- May a transaction be? -/
def txOk (t : TxD) : Bool := zxOk t.ep t.n && origOk t.srv t.num && mayP 8 0 t.rq

theorem check_any (cs : List Value) (t : TxD) (w : World) (h : SeesTx w cs t) (hg : t.good) (hn : Nam w) :
    Calls Tryz.prog 128 #[.agg cs.toArray] w fun r w' => r = .returned (.int .i64 (if txOk t then 0 else 40)) ∧ Below w.heap.size w w' := by
  obtain ⟨rc, rfl, hr⟩ := h
  have HM : ∀ W : World, Below w.heap.size w W → Calls Tryz.prog 138 #[lay 8 0, .agg rc.toArray] W fun r w' => r = .returned (.bool (mayP 8 0 t.rq)) ∧ Below W.heap.size W w' := fun W hW =>
    mayBe_any t.rq 8 0 rc W (by omega) (hr.later hW (Nat.le_refl _)) hg.rq (hn.below hW hn.lt)
  obtain ⟨q0, q1, d0, d1, d2, a0, a1, a2, q4, q5, q6, q7, q8, e0, e1, e2, o0, o1, o2, rfl⟩ := rq_forms hr
  have g1 := hg.e0
  have g2 := hg.n0
  by_cases hz : zxOk t.ep t.n = true
  · by_cases ho : origOk t.srv t.num = true
    · have e : txOk t = mayP 8 0 t.rq := by simp [txOk, hz, ho]
      rw [e]
      exact check_ok t.ep t.n t.srv t.boot t.num q0 q1 d0 a0 e0 o0 d1 d2 a1 a2 e1 e2 o1 o2 q4 q5 q6 q7 q8 (mayP 8 0 t.rq) w g1 g2 hz ho HM
    · have e : txOk t = false := by simp [txOk, ho]
      rw [e]
      exact check_2 t.ep t.n t.srv t.boot t.num q0 q1 d0 a0 e0 o0 d1 d2 a1 a2 e1 e2 o1 o2 q4 q5 q6 q7 q8 w g1 g2 hz (by simpa using ho)
  · have e : txOk t = false := by simp [txOk, hz]
    rw [e]
    exact check_1 t.ep t.n t.srv t.boot t.num q0 q1 d0 a0 e0 o0 d1 d2 a1 a2 e1 e2 o1 o2 q4 q5 q6 q7 q8 w g1 g2 (by simpa using hz)
end Go.Proofs.YtldcbabgommghaaGreatDoor

/- A packet as data, and what the tests of package packet's rows answer: isConn, isZxid, isEpochRight, isZxidRight, isTxnRight and the short ones. -/
namespace Go.Proofs.YtldcbabgommghaaGreatDoor
open Go.RowKit
set_option maxRecDepth 8000

/-- A packet as data. -/
structure PkD where
  kind : Int
  cb : Int
  ct : Int
  lb : Int
  lt : Int
  place : Int
  ep : Int
  cur : Int
  ze : Int
  zn : Int
  pe : Int
  pn : Int
  cnt : Bool
  fin : Bool
  tx : TxD
  bys : List Int
  ses : Int

structure PkD.good (p : PkD) : Prop where
  k0 : -128 ≤ p.kind
  k1 : p.kind ≤ 127
  cb0 : 0 ≤ p.cb
  cb1 : p.cb ≤ 4294967295
  ct0 : 0 ≤ p.ct
  ct1 : p.ct ≤ 4294967295
  lb0 : 0 ≤ p.lb
  lb1 : p.lb ≤ 4294967295
  lt0 : 0 ≤ p.lt
  lt1 : p.lt ≤ 4294967295
  pl0 : -9223372036854775808 ≤ p.place
  pl1 : p.place ≤ 9223372036854775807
  ep0 : 0 ≤ p.ep
  ep1 : p.ep ≤ 4294967295
  cu0 : 0 ≤ p.cur
  cu1 : p.cur ≤ 4294967295
  ze0 : 0 ≤ p.ze
  ze1 : p.ze ≤ 4294967295
  zn0 : 0 ≤ p.zn
  zn1 : p.zn ≤ 4294967295
  pe0 : 0 ≤ p.pe
  pe1 : p.pe ≤ 4294967295
  pn0 : 0 ≤ p.pn
  pn1 : p.pn ≤ 4294967295
  tx : p.tx.good
  se0 : -9223372036854775808 ≤ p.ses
  se1 : p.ses ≤ 9223372036854775807

/-- A packet's cells. -/
def pkL (p : PkD) (tc : List Value) (bv : Value) : List Value :=
  .int .i8 p.kind :: .int .u32 p.cb :: .int .u32 p.ct :: .int .u32 p.lb :: .int .u32 p.lt :: .int .i64 p.place :: .int .u32 p.ep :: .int .u32 p.cur :: .int .u32 p.ze :: .int .u32 p.zn :: .int .u32 p.pe :: .int .u32 p.pn :: .bool p.cnt :: .bool p.fin :: (tc ++ [bv, .int .i64 p.ses])

/-- A packet's cells and its lists, in memory. -/
structure SeesPk (w : World) (tc : List Value) (bv : Value) (p : PkD) : Prop where
  tx : SeesTx w tc p.tx
  bys : Sees w bv p.bys
  byt : Byts p.bys

theorem SeesPk.below {B : Nat} {w w' : World} {tc : List Value} {bv : Value} {p : PkD} (h : SeesPk w tc bv p) (hb : Below B w w') (hB : w.heap.size ≤ B) : SeesPk w' tc bv p :=
  ⟨h.tx.below hb hB, h.bys.below hb hB, h.byt⟩

theorem pk_at {W : World} {b i : Nat} {cs : Array Value} {t : TypeId} {v : Value} (h : W.heap[b]? = some (.cells cs t (0, 0))) (hv : cs[i]? = some v) : W.cell? ⟨b, i, none⟩ = some v := by rw [cell_of_row _ _ _ _ _ _ h]; exact hv

/-- A packet in a block of its own. -/
def PkAt (W : World) (g : Nat) (p : PkD) (tc : List Value) (bv : Value) : Prop := W.heap[g]? = some (.cells (pkL p tc bv).toArray 39 (0, 0))

theorem PkAt.tail {W : World} {g : Nat} {p : PkD} {tc : List Value} {bv : Value} (h : PkAt W g p tc bv) (hl : tc.length = 16) : W.rangeAt g 14 tc ∧ W.cell? ⟨g, 30, none⟩ = some bv ∧ W.cell? ⟨g, 31, none⟩ = some (.int .i64 p.ses) := by
  refine ⟨fun j v hj => ?_, pk_at h ?_, pk_at h ?_⟩
  · rw [cell_of_row _ _ _ _ _ _ h, List.getElem?_toArray, show 14 + j = j + 14 by omega]
    show (tc ++ [bv, .int .i64 p.ses])[j]? = some v
    rw [List.getElem?_append_left (by have := List.getElem?_eq_some_iff.1 hj; exact this.1)]
    exact hj
  · rw [List.getElem?_toArray]
    show (tc ++ [bv, .int .i64 p.ses])[16]? = some bv
    rw [List.getElem?_append_right (by omega), hl]; rfl
  · rw [List.getElem?_toArray]
    show (tc ++ [bv, .int .i64 p.ses])[17]? = some (.int .i64 p.ses)
    rw [List.getElem?_append_right (by omega), hl]; rfl

theorem PkAt.later {W W' : World} {g : Nat} {p : PkD} {tc : List Value} {bv : Value} (h : PkAt W g p tc bv) {B : Nat} (hb : Below B W W') (hB : g < B) : PkAt W' g p tc bv := (Below.kept hb).heap h (by omega)
theorem PkAt.lt {W : World} {g : Nat} {p : PkD} {tc : List Value} {bv : Value} (h : PkAt W g p tc bv) : g < W.heap.size := lt_of_block h

/-- A packet that is handed over is put into a box. -/
theorem pk_box (p : PkD) (tc : List Value) (bv : Value) (w : World) : ∃ W, Hid (W = w.alloc (.cells (pkL p tc bv).toArray 39)) ∧ Hid (Below w.heap.size w W ∧ PkAt W w.heap.size p tc bv) :=
  ⟨_, rfl, one_alloc _ _, heap_alloc_new _ _⟩

def connB (b t : Int) : Bool := decide (1 ≤ b ∧ 1 ≤ t)

theorem isConn_any (b t : Int) (w : World) : Calls Tryz.prog 75 #[.agg #[.int .u32 b, .int .u32 t]] w fun r w' => r = .returned (.bool (connB b t)) ∧ Below w.heap.size w w' := by
  have hB := one_alloc w
  go_enter Tryz.func75, Tryz.ntmps75
  go_wp2
  all_goals (go_ret; refine ⟨?_, hB _⟩; unfold connB; simp [*]; try omega)

set_option maxHeartbeats 400000 in
theorem isZxidP_any (e n : Int) (w : World) (h0 : 0 ≤ e) (h2 : 0 ≤ n) :
    Calls Tryz.prog 98 #[zx e n] w fun r w' => r = .returned (.bool (zxOk e n)) ∧ Below w.heap.size w w' := by
  have hg : Tryz.prog.eqGuardType Tryz.prog.depth 27 = false := by kernel_rfl
  have hB := one_alloc w
  have hq := eqZx e n 0 0
  by_cases hz : e = 0 ∧ n = 0
  · rw [decide_eq_true hz] at hq
    have hr : zxOk e n = true := by unfold zxOk; simp [hz]
    obtain ⟨rfl, rfl⟩ := hz
    rw [hr]
    clear h0 h2 hr
    go_enter Tryz.func98, Tryz.ntmps98
    go_wp2
    go_ret
    exact ⟨rfl, hB _⟩
  · rw [decide_eq_false hz] at hq
    have hr : zxOk e n = decide (1 ≤ e ∧ e ≤ 2147483647 ∧ 1 ≤ n) := by
      unfold zxOk; congr 1; simp; exact fun h1 h2 => absurd ⟨h1, h2⟩ hz
    rw [hr]
    have HZ : Hid (¬ (e = 0 ∧ n = 0)) := hz
    clear hz hr
    go_enter Tryz.func98, Tryz.ntmps98
    go_wp2
    all_goals (go_ret; refine ⟨?_, hB _⟩; simp [*]; try omega)

section
variable (p : PkD) (tc : List Value) (bv : Value) (w : World)

theorem rtConn : Calls Tryz.prog 74 #[.agg (pkL p tc bv).toArray] w fun r w' => r = .returned (.bool (connB p.cb p.ct)) ∧ Below w.heap.size w w' := by
  obtain ⟨W, HE, HW⟩ := pk_box p tc bv w
  have c1 : W.cell? ⟨w.heap.size, 1, none⟩ = some (.int .u32 p.cb) := pk_at HW.out.2 rfl
  have c2 : W.cell? ⟨w.heap.size, 2, none⟩ = some (.int .u32 p.ct) := pk_at HW.out.2 rfl
  go_enter Tryz.func74, Tryz.ntmps74
  go_upto_region 1 with fail
  rw [← HE.out]
  clear HE
  go_wp2_with fail
  refine (isConn_any _ _ _).mono ?_
  rintro _ w1 ⟨rfl, b1⟩
  have HB : Hid (Below w.heap.size w w1) := HW.out.1.trans (b1.mono HW.out.1.size)
  clear b1 c1 c2
  go_wp2_with fail
  go_ret
  exact ⟨rfl, HB.out⟩

theorem rtLead : Calls Tryz.prog 80 #[.agg (pkL p tc bv).toArray] w fun r w' => r = .returned (.bool (connB p.lb p.lt)) ∧ Below w.heap.size w w' := by
  obtain ⟨W, HE, HW⟩ := pk_box p tc bv w
  have c3 : W.cell? ⟨w.heap.size, 3, none⟩ = some (.int .u32 p.lb) := pk_at HW.out.2 rfl
  have c4 : W.cell? ⟨w.heap.size, 4, none⟩ = some (.int .u32 p.lt) := pk_at HW.out.2 rfl
  go_enter Tryz.func80, Tryz.ntmps80
  go_upto_region 1 with fail
  rw [← HE.out]
  clear HE
  go_wp2_with fail
  refine (isConn_any _ _ _).mono ?_
  rintro _ w1 ⟨rfl, b1⟩
  have HB : Hid (Below w.heap.size w w1) := HW.out.1.trans (b1.mono HW.out.1.size)
  clear b1 c3 c4
  go_wp2_with fail
  go_ret
  exact ⟨rfl, HB.out⟩

theorem rtPlace : Calls Tryz.prog 83 #[.agg (pkL p tc bv).toArray] w fun r w' => r = .returned (.bool (decide (0 ≤ p.place))) ∧ Below w.heap.size w w' := by
  obtain ⟨W, HE, HW⟩ := pk_box p tc bv w
  have c5 : W.cell? ⟨w.heap.size, 5, none⟩ = some (.int .i64 p.place) := pk_at HW.out.2 rfl
  go_enter Tryz.func83, Tryz.ntmps83
  go_upto_region 1 with fail
  rw [← HE.out]
  clear HE
  go_wp2_with fail
  all_goals (go_ret; exact ⟨rfl, HW.out.1⟩)

def epB (p : PkD) : Bool := decide (p.ep ≤ 2147483647 ∧ (1 ≤ p.ep ∨ p.kind = 1))

theorem rtEpoch : Calls Tryz.prog 88 #[.agg (pkL p tc bv).toArray] w fun r w' => r = .returned (.bool (epB p)) ∧ Below w.heap.size w w' := by
  obtain ⟨W, HE, HW⟩ := pk_box p tc bv w
  have c6 : W.cell? ⟨w.heap.size, 6, none⟩ = some (.int .u32 p.ep) := pk_at HW.out.2 rfl
  have c0 : W.cell? ⟨w.heap.size, 0, none⟩ = some (.int .i8 p.kind) := pk_at HW.out.2 rfl
  go_enter Tryz.func88, Tryz.ntmps88
  go_upto_region 1 with fail
  rw [← HE.out]
  clear HE
  by_cases h1 : p.ep ≤ 2147483647
  · by_cases h2 : 1 ≤ p.ep
    · have HR : Hid (epB p = true) := by show epB p = true; unfold epB; simp [h1, h2]
      go_wp2_with fail
      all_goals (go_ret; exact ⟨by rw [HR.out]; rfl, HW.out.1⟩)
    · by_cases h3 : p.kind = 1
      · have HR : Hid (epB p = true) := by show epB p = true; unfold epB; simp [h1, h3]
        rw [h3] at c0
        clear h3
        go_wp2_with fail
        all_goals (go_ret; exact ⟨by rw [HR.out]; rfl, HW.out.1⟩)
      · have HR : Hid (epB p = false) := by show epB p = false; unfold epB; simp [h1, h3]; omega
        have h3' : (p.kind == 1) = false := by simp [h3]
        go_wp2_with fail
        all_goals (go_ret; exact ⟨by rw [HR.out]; rfl, HW.out.1⟩)
  · have HR : Hid (epB p = false) := by show epB p = false; unfold epB; simp [h1]
    go_wp2_with fail
    all_goals (go_ret; exact ⟨by rw [HR.out]; rfl, HW.out.1⟩)

theorem rtCur : Calls Tryz.prog 91 #[.agg (pkL p tc bv).toArray] w fun r w' => r = .returned (.bool (decide (p.cur ≤ 2147483647))) ∧ Below w.heap.size w w' := by
  obtain ⟨W, HE, HW⟩ := pk_box p tc bv w
  have c7 : W.cell? ⟨w.heap.size, 7, none⟩ = some (.int .u32 p.cur) := pk_at HW.out.2 rfl
  go_enter Tryz.func91, Tryz.ntmps91
  go_upto_region 1 with fail
  rw [← HE.out]
  clear HE
  go_wp2_with fail
  all_goals (go_ret; exact ⟨rfl, HW.out.1⟩)

def zxB (p : PkD) : Bool := zxOk p.ze p.zn && !(decide (p.kind = 11 ∨ p.kind = 12) && decide (p.ze = 0 ∧ p.zn = 0))

theorem rtZxid (hg : p.good) : Calls Tryz.prog 94 #[.agg (pkL p tc bv).toArray] w fun r w' => r = .returned (.bool (zxB p)) ∧ Below w.heap.size w w' := by
  obtain ⟨W, HE, HW⟩ := pk_box p tc bv w
  have c0 : W.cell? ⟨w.heap.size, 0, none⟩ = some (.int .i8 p.kind) := pk_at HW.out.2 rfl
  have c8 : W.cell? ⟨w.heap.size, 8, none⟩ = some (.int .u32 p.ze) := pk_at HW.out.2 rfl
  have c9 : W.cell? ⟨w.heap.size, 9, none⟩ = some (.int .u32 p.zn) := pk_at HW.out.2 rfl
  go_enter Tryz.func94, Tryz.ntmps94
  go_upto_region 1 with fail
  rw [← HE.out]
  clear HE
  have hgt : Tryz.prog.eqGuardType Tryz.prog.depth 27 = false := by kernel_rfl
  have HZ := eqZx p.ze p.zn 0 0
  by_cases k1 : p.kind = 11
  · have DK : decide (p.kind = 11 ∨ p.kind = 12) = true := decide_eq_true (.inl k1)
    rw [k1] at c0
    have HK : Hid _ := DK
    clear k1 DK
    go_wp2_with fail
    refine (isZxidP_any _ _ _ hg.ze0 hg.zn0).mono ?_
    rintro _ w1 ⟨rfl, b1⟩
    have HB : Hid (Below w.heap.size w w1 ∧ PkAt w1 w.heap.size p tc bv) := ⟨HW.out.1.trans (b1.mono HW.out.1.size), HW.out.2.later b1 HW.out.2.lt⟩
    have c8 : w1.cell? ⟨w.heap.size, 8, none⟩ = some (.int .u32 p.ze) := pk_at HB.out.2 rfl
    have c9 : w1.cell? ⟨w.heap.size, 9, none⟩ = some (.int .u32 p.zn) := pk_at HB.out.2 rfl
    clear b1
    obtain ⟨z, hz⟩ : ∃ z, z = zxOk p.ze p.zn := ⟨_, rfl⟩
    rw [← hz]
    have HZX : Hid _ := hz
    clear hz
    cases z
    · have HR : Hid (zxB p = false) := by show zxB p = false; unfold zxB; rw [← HZX.out]; rfl
      go_wp2_with fail
      all_goals (go_ret; exact ⟨by rw [HR.out]; rfl, HB.out.1⟩)
    · by_cases hz : p.ze = 0 ∧ p.zn = 0
      · have HR : Hid (zxB p = false) := by show zxB p = false; unfold zxB; rw [← HZX.out, decide_eq_true hz, HK.out]; rfl
        rw [decide_eq_true hz] at HZ
        go_wp2_with fail
        all_goals (go_ret; exact ⟨by rw [HR.out]; rfl, HB.out.1⟩)
      · have HR : Hid (zxB p = true) := by show zxB p = true; unfold zxB; rw [← HZX.out, decide_eq_false hz, HK.out]; rfl
        rw [decide_eq_false hz] at HZ
        go_wp2_with fail
        all_goals (go_ret; exact ⟨by rw [HR.out]; rfl, HB.out.1⟩)
  · by_cases k2 : p.kind = 12
    · have DK : decide (p.kind = 11 ∨ p.kind = 12) = true := decide_eq_true (.inr k2)
      rw [k2] at c0
      have HK : Hid _ := DK
      clear k1 k2 DK
      go_wp2_with fail
      refine (isZxidP_any _ _ _ hg.ze0 hg.zn0).mono ?_
      rintro _ w1 ⟨rfl, b1⟩
      have HB : Hid (Below w.heap.size w w1 ∧ PkAt w1 w.heap.size p tc bv) := ⟨HW.out.1.trans (b1.mono HW.out.1.size), HW.out.2.later b1 HW.out.2.lt⟩
      have c8 : w1.cell? ⟨w.heap.size, 8, none⟩ = some (.int .u32 p.ze) := pk_at HB.out.2 rfl
      have c9 : w1.cell? ⟨w.heap.size, 9, none⟩ = some (.int .u32 p.zn) := pk_at HB.out.2 rfl
      clear b1
      obtain ⟨z, hz⟩ : ∃ z, z = zxOk p.ze p.zn := ⟨_, rfl⟩
      rw [← hz]
      have HZX : Hid _ := hz
      clear hz
      cases z
      · have HR : Hid (zxB p = false) := by show zxB p = false; unfold zxB; rw [← HZX.out]; rfl
        go_wp2_with fail
        all_goals (go_ret; exact ⟨by rw [HR.out]; rfl, HB.out.1⟩)
      · by_cases hz : p.ze = 0 ∧ p.zn = 0
        · have HR : Hid (zxB p = false) := by show zxB p = false; unfold zxB; rw [← HZX.out, decide_eq_true hz, HK.out]; rfl
          rw [decide_eq_true hz] at HZ
          go_wp2_with fail
          all_goals (go_ret; exact ⟨by rw [HR.out]; rfl, HB.out.1⟩)
        · have HR : Hid (zxB p = true) := by show zxB p = true; unfold zxB; rw [← HZX.out, decide_eq_false hz, HK.out]; rfl
          rw [decide_eq_false hz] at HZ
          go_wp2_with fail
          all_goals (go_ret; exact ⟨by rw [HR.out]; rfl, HB.out.1⟩)
    · have DK : decide (p.kind = 11 ∨ p.kind = 12) = false := decide_eq_false (fun h => h.elim k1 k2)
      have k1' : (p.kind == 11) = false := by simp [k1]
      have k2' : (p.kind == 12) = false := by simp [k2]
      have HK : Hid _ := DK
      clear k1 k2 DK
      go_wp2_with fail
      refine (isZxidP_any _ _ _ hg.ze0 hg.zn0).mono ?_
      rintro _ w1 ⟨rfl, b1⟩
      have HB : Hid (Below w.heap.size w w1 ∧ PkAt w1 w.heap.size p tc bv) := ⟨HW.out.1.trans (b1.mono HW.out.1.size), HW.out.2.later b1 HW.out.2.lt⟩
      have c8 : w1.cell? ⟨w.heap.size, 8, none⟩ = some (.int .u32 p.ze) := pk_at HB.out.2 rfl
      have c9 : w1.cell? ⟨w.heap.size, 9, none⟩ = some (.int .u32 p.zn) := pk_at HB.out.2 rfl
      clear b1
      obtain ⟨z, hz⟩ : ∃ z, z = zxOk p.ze p.zn := ⟨_, rfl⟩
      rw [← hz]
      have HZX : Hid _ := hz
      clear hz
      cases z
      · have HR : Hid (zxB p = false) := by show zxB p = false; unfold zxB; rw [← HZX.out]; rfl
        go_wp2_with fail
        all_goals (go_ret; exact ⟨by rw [HR.out]; rfl, HB.out.1⟩)
      · by_cases hz : p.ze = 0 ∧ p.zn = 0
        · have HR : Hid (zxB p = true) := by show zxB p = true; unfold zxB; rw [← HZX.out, decide_eq_true hz, HK.out]; rfl
          rw [decide_eq_true hz] at HZ
          go_wp2_with fail
          all_goals (go_ret; exact ⟨by rw [HR.out]; rfl, HB.out.1⟩)
        · have HR : Hid (zxB p = true) := by show zxB p = true; unfold zxB; rw [← HZX.out, decide_eq_false hz, HK.out]; rfl
          rw [decide_eq_false hz] at HZ
          go_wp2_with fail
          all_goals (go_ret; exact ⟨by rw [HR.out]; rfl, HB.out.1⟩)

theorem rtPrev (hg : p.good) : Calls Tryz.prog 97 #[.agg (pkL p tc bv).toArray] w fun r w' => r = .returned (.bool (zxOk p.pe p.pn)) ∧ Below w.heap.size w w' := by
  obtain ⟨W, HE, HW⟩ := pk_box p tc bv w
  have c10 : W.cell? ⟨w.heap.size, 10, none⟩ = some (.int .u32 p.pe) := pk_at HW.out.2 rfl
  have c11 : W.cell? ⟨w.heap.size, 11, none⟩ = some (.int .u32 p.pn) := pk_at HW.out.2 rfl
  go_enter Tryz.func97, Tryz.ntmps97
  go_upto_region 1 with fail
  rw [← HE.out]
  clear HE
  go_wp2_with fail
  refine (isZxidP_any _ _ _ hg.pe0 hg.pn0).mono ?_
  rintro _ w1 ⟨rfl, b1⟩
  have HB : Hid (Below w.heap.size w w1) := HW.out.1.trans (b1.mono HW.out.1.size)
  clear b1 c10 c11
  go_wp2_with fail
  go_ret
  exact ⟨rfl, HB.out⟩

theorem rtAny : Calls Tryz.prog 101 #[.agg (pkL p tc bv).toArray] w fun r w' => r = .returned (.bool (true)) ∧ Below w.heap.size w w' := by
  obtain ⟨W, HE, HW⟩ := pk_box p tc bv w

  go_enter Tryz.func101, Tryz.ntmps101
  go_upto_region 1 with fail
  rw [← HE.out]
  clear HE
  go_wp2_with fail
  all_goals (go_ret; exact ⟨rfl, HW.out.1⟩)

theorem rtBytes (hv : Sees w bv p.bys) (hl : tc.length = 16) : Calls Tryz.prog 111 #[.agg (pkL p tc bv).toArray] w fun r w' => r = .returned (.bool (decide (1 ≤ p.bys.length ∧ p.bys.length ≤ 4096))) ∧ Below w.heap.size w w' := by
  obtain ⟨W, HE, HW⟩ := pk_box p tc bv w
  have c30 := (HW.out.2.tail hl).2.1
  obtain ⟨ao, cap, rfl, hlc, hcm, _⟩ := hv
  by_cases h1 : 1 ≤ p.bys.length
  · by_cases h2 : p.bys.length ≤ 4096
    · have h2' : decide ((p.bys.length : Int) ≤ 4096) = true := decide_eq_true (by omega)
      rw [decide_eq_true (⟨h1, h2⟩ : 1 ≤ p.bys.length ∧ p.bys.length ≤ 4096)]
      go_enter Tryz.func111, Tryz.ntmps111
      go_upto_region 1 with fail
      rw [← HE.out]
      clear HE
      go_wp2_with fail
      all_goals (go_ret; exact ⟨by first | rfl | (rw [← h2']; rfl), HW.out.1⟩)
    · have h2' : decide ((p.bys.length : Int) ≤ 4096) = false := decide_eq_false (by omega)
      rw [decide_eq_false (fun h => h2 h.2 : ¬ (1 ≤ p.bys.length ∧ p.bys.length ≤ 4096))]
      go_enter Tryz.func111, Tryz.ntmps111
      go_upto_region 1 with fail
      rw [← HE.out]
      clear HE
      go_wp2_with fail
      all_goals (go_ret; exact ⟨by first | rfl | (rw [← h2']; rfl), HW.out.1⟩)
  · rw [decide_eq_false (fun h => h1 h.1 : ¬ (1 ≤ p.bys.length ∧ p.bys.length ≤ 4096))]
    go_enter Tryz.func111, Tryz.ntmps111
    go_upto_region 1 with fail
    rw [← HE.out]
    clear HE
    go_wp2_with fail
    all_goals (go_ret; exact ⟨rfl, HW.out.1⟩)

theorem rtSes (hl : tc.length = 16) : Calls Tryz.prog 116 #[.agg (pkL p tc bv).toArray] w fun r w' => r = .returned (.bool (decide (1 ≤ p.ses))) ∧ Below w.heap.size w w' := by
  obtain ⟨W, HE, HW⟩ := pk_box p tc bv w
  have c31 := (HW.out.2.tail hl).2.2
  go_enter Tryz.func116, Tryz.ntmps116
  go_upto_region 1 with fail
  rw [← HE.out]
  clear HE
  go_wp2_with fail
  all_goals (go_ret; exact ⟨rfl, HW.out.1⟩)
end
end Go.Proofs.YtldcbabgommghaaGreatDoor
