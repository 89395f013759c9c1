/- What txn.Check answers where the zxid and the origin may be: by mayBe's answer. -/
import Derived.Test.YtgjjcmhlmdfccaaGreatDoorChk4J
namespace Go.Proofs.YtgjjcmhlmdfccaaGreatDoor
open Go.RowKit
set_option maxRecDepth 8000

theorem keep16 {W W' : World} {N : Nat} {r0 r1 r2 r3 r4 r5 r6 r7 r8 r9 r10 r11 r12 r13 r14 r15 : Value} (hb : Below W.heap.size W W') (h : W.cell? ⟨N, 0, none⟩ = some r0 ∧ W.cell? ⟨N, 1, none⟩ = some r1 ∧ W.cell? ⟨N, 2, none⟩ = some r2 ∧ W.cell? ⟨N, 3, none⟩ = some r3 ∧ W.cell? ⟨N, 4, none⟩ = some r4 ∧ W.cell? ⟨N, 5, none⟩ = some r5 ∧ W.cell? ⟨N, 6, none⟩ = some r6 ∧ W.cell? ⟨N, 7, none⟩ = some r7 ∧ W.cell? ⟨N, 8, none⟩ = some r8 ∧ W.cell? ⟨N, 9, none⟩ = some r9 ∧ W.cell? ⟨N, 10, none⟩ = some r10 ∧ W.cell? ⟨N, 11, none⟩ = some r11 ∧ W.cell? ⟨N, 12, none⟩ = some r12 ∧ W.cell? ⟨N, 13, none⟩ = some r13 ∧ W.cell? ⟨N, 14, none⟩ = some r14 ∧ W.cell? ⟨N, 15, none⟩ = some r15) :
    W'.cell? ⟨N, 0, none⟩ = some r0 ∧ W'.cell? ⟨N, 1, none⟩ = some r1 ∧ W'.cell? ⟨N, 2, none⟩ = some r2 ∧ W'.cell? ⟨N, 3, none⟩ = some r3 ∧ W'.cell? ⟨N, 4, none⟩ = some r4 ∧ W'.cell? ⟨N, 5, none⟩ = some r5 ∧ W'.cell? ⟨N, 6, none⟩ = some r6 ∧ W'.cell? ⟨N, 7, none⟩ = some r7 ∧ W'.cell? ⟨N, 8, none⟩ = some r8 ∧ W'.cell? ⟨N, 9, none⟩ = some r9 ∧ W'.cell? ⟨N, 10, none⟩ = some r10 ∧ W'.cell? ⟨N, 11, none⟩ = some r11 ∧ W'.cell? ⟨N, 12, none⟩ = some r12 ∧ W'.cell? ⟨N, 13, none⟩ = some r13 ∧ W'.cell? ⟨N, 14, none⟩ = some r14 ∧ W'.cell? ⟨N, 15, none⟩ = some r15 :=
  ⟨cell_later h.1 hb (Nat.le_refl _), cell_later h.2.1 hb (Nat.le_refl _), cell_later h.2.2.1 hb (Nat.le_refl _), cell_later h.2.2.2.1 hb (Nat.le_refl _), cell_later h.2.2.2.2.1 hb (Nat.le_refl _), cell_later h.2.2.2.2.2.1 hb (Nat.le_refl _), cell_later h.2.2.2.2.2.2.1 hb (Nat.le_refl _), cell_later h.2.2.2.2.2.2.2.1 hb (Nat.le_refl _), cell_later h.2.2.2.2.2.2.2.2.1 hb (Nat.le_refl _), cell_later h.2.2.2.2.2.2.2.2.2.1 hb (Nat.le_refl _), cell_later h.2.2.2.2.2.2.2.2.2.2.1 hb (Nat.le_refl _), cell_later h.2.2.2.2.2.2.2.2.2.2.2.1 hb (Nat.le_refl _), cell_later h.2.2.2.2.2.2.2.2.2.2.2.2.1 hb (Nat.le_refl _), cell_later h.2.2.2.2.2.2.2.2.2.2.2.2.2.1 hb (Nat.le_refl _), cell_later h.2.2.2.2.2.2.2.2.2.2.2.2.2.2.1 hb (Nat.le_refl _), cell_later h.2.2.2.2.2.2.2.2.2.2.2.2.2.2.2 hb (Nat.le_refl _)⟩

set_option maxHeartbeats 2000000 in
theorem check_ok (e n sv bt nm k : Int) (s : ByteArray) (da aa wa oa : Option Addr) (dl dc al ac wl wc ol oc : Nat) (ver : Int) (eph seq : Bool) (ses tmo : Int) (q : Bool) (w : World) (h0 : 0 ≤ e) (h2 : 0 ≤ n)
    (hz : zxOk e n = true) (hO : origOk sv nm = true)
    (hb : ∀ W : World, Below w.heap.size w W → Calls Tryz.prog 144 #[lay 8 0, .agg #[.int .i8 k, .string s, .slice da dl dc, .slice aa al ac, .int .i32 ver, .bool eph, .bool seq, .int .i64 ses, .int .i32 tmo, .slice wa wl wc, .slice oa ol oc]] W fun r W' => r = .returned (.bool q) ∧ Below W.heap.size W W') :
    Calls Tryz.prog 118 #[.agg #[.int .u32 e, .int .u32 n, .int .i8 sv, .int .u32 bt, .int .i64 nm, .int .i8 k, .string s, .slice da dl dc, .slice aa al ac, .int .i32 ver, .bool eph, .bool seq, .int .i64 ses, .int .i32 tmo, .slice wa wl wc, .slice oa ol oc]] w fun r w' => r = .returned (.int .i64 (if q then 0 else 40)) ∧ Below w.heap.size w w' := by
  have HZ : Hid (∀ W : World, Calls Tryz.prog 141 #[.agg #[.int .u32 e, .int .u32 n]] W fun r w' => r = .returned (.bool true) ∧ Below W.heap.size W w') := fun W => by
    rw [← hz]; exact isZxid_any e n W h0 h2
  have HO : Hid (∀ W : World, Calls Tryz.prog 142 #[.agg #[.int .i8 sv, .int .u32 bt, .int .i64 nm]] W fun r w' => r = .returned (.bool true) ∧ Below W.heap.size W w') := fun W => by
    rw [← hO]; exact isOrigin_any sv bt nm W
  have HB : Hid _ := hb
  have HL : Hid (∀ o : Obj, Below w.heap.size w (w.alloc o).drew) := fun o => below_drewN (one_alloc w o) 1
  clear hb hz hO
  go_enter Tryz.func118, Tryz.ntmps118
  go_wp2_with fail
  generalize eW0 : (w.alloc (.cells #[.int .u32 e, .int .u32 n, .int .i8 sv, .int .u32 bt, .int .i64 nm, .int .i8 k, .string s, .slice da dl dc, .slice aa al ac, .int .i32 ver, .bool eph, .bool seq, .int .i64 ses, .int .i32 tmo, .slice wa wl wc, .slice oa ol oc] 37)) = W0
  have k0 : W0.drew.cell? ⟨w.heap.size, 0, none⟩ = some (.int .u32 e) ∧ W0.drew.cell? ⟨w.heap.size, 1, none⟩ = some (.int .u32 n) ∧ W0.drew.cell? ⟨w.heap.size, 2, none⟩ = some (.int .i8 sv) ∧ W0.drew.cell? ⟨w.heap.size, 3, none⟩ = some (.int .u32 bt) ∧ W0.drew.cell? ⟨w.heap.size, 4, none⟩ = some (.int .i64 nm) ∧ W0.drew.cell? ⟨w.heap.size, 5, none⟩ = some (.int .i8 k) ∧ W0.drew.cell? ⟨w.heap.size, 6, none⟩ = some (.string s) ∧ W0.drew.cell? ⟨w.heap.size, 7, none⟩ = some (.slice da dl dc) ∧ W0.drew.cell? ⟨w.heap.size, 8, none⟩ = some (.slice aa al ac) ∧ W0.drew.cell? ⟨w.heap.size, 9, none⟩ = some (.int .i32 ver) ∧ W0.drew.cell? ⟨w.heap.size, 10, none⟩ = some (.bool eph) ∧ W0.drew.cell? ⟨w.heap.size, 11, none⟩ = some (.bool seq) ∧ W0.drew.cell? ⟨w.heap.size, 12, none⟩ = some (.int .i64 ses) ∧ W0.drew.cell? ⟨w.heap.size, 13, none⟩ = some (.int .i32 tmo) ∧ W0.drew.cell? ⟨w.heap.size, 14, none⟩ = some (.slice wa wl wc) ∧ W0.drew.cell? ⟨w.heap.size, 15, none⟩ = some (.slice oa ol oc) := by
    subst eW0
    refine ⟨?_, ?_, ?_, ?_, ?_, ?_, ?_, ?_, ?_, ?_, ?_, ?_, ?_, ?_, ?_, ?_⟩ <;> (show World.cell? (w.alloc _) _ = _; rw [cell_of_row _ _ _ _ _ _ (heap_alloc_new _ _)]; rfl)
  have HG0 : Hid (Below w.heap.size w W0.drew) := by subst eW0; exact HL.out _
  clear HL eW0
  go_region_held (fun w' => w'.cell? ⟨w.heap.size, 0, none⟩ = some (.int .u32 e) ∧ w'.cell? ⟨w.heap.size, 1, none⟩ = some (.int .u32 n) ∧ w'.cell? ⟨w.heap.size, 2, none⟩ = some (.int .i8 sv) ∧ w'.cell? ⟨w.heap.size, 3, none⟩ = some (.int .u32 bt) ∧ w'.cell? ⟨w.heap.size, 4, none⟩ = some (.int .i64 nm) ∧ w'.cell? ⟨w.heap.size, 5, none⟩ = some (.int .i8 k) ∧ w'.cell? ⟨w.heap.size, 6, none⟩ = some (.string s) ∧ w'.cell? ⟨w.heap.size, 7, none⟩ = some (.slice da dl dc) ∧ w'.cell? ⟨w.heap.size, 8, none⟩ = some (.slice aa al ac) ∧ w'.cell? ⟨w.heap.size, 9, none⟩ = some (.int .i32 ver) ∧ w'.cell? ⟨w.heap.size, 10, none⟩ = some (.bool eph) ∧ w'.cell? ⟨w.heap.size, 11, none⟩ = some (.bool seq) ∧ w'.cell? ⟨w.heap.size, 12, none⟩ = some (.int .i64 ses) ∧ w'.cell? ⟨w.heap.size, 13, none⟩ = some (.int .i32 tmo) ∧ w'.cell? ⟨w.heap.size, 14, none⟩ = some (.slice wa wl wc) ∧ w'.cell? ⟨w.heap.size, 15, none⟩ = some (.slice oa ol oc)) (first | exact k0 | exact k1 | exact k2 | exact k3 | exact k4)
    (first
    | (go_at_call 141; refine (HZ.out _).mono ?_; rintro r w1 ⟨rfl, g1⟩; have HG1 : Hid (Below w.heap.size w w1) := HG0.out.trans (g1.mono HG0.out.size); have k1 := keep16 g1 k0; clear k0 HG0 g1)
    | (go_at_call 142; refine (HO.out _).mono ?_; rintro r w2 ⟨rfl, g2⟩; have HG2 : Hid (Below w.heap.size w w2) := HG1.out.trans (g2.mono HG1.out.size); have k2 := keep16 g2 k1; clear k1 HG1 g2)
    | (go_at_call 143; refine (proposed_any _).mono ?_; rintro r w3 ⟨rfl, g3⟩; have HG3 : Hid (Below w.heap.size w w3) := HG2.out.trans (g3.mono HG2.out.size); have k3 := keep16 g3 k2; clear k2 HG2 g3)
    | (go_at_call 144; refine (HB.out _ HG3.out).mono ?_; rintro r w4 ⟨rfl, g4⟩; have HG4 : Hid (Below w.heap.size w w4) := HG3.out.trans (g4.mono HG3.out.size); have k4 := keep16 g4 k3; clear k3 HG3 g4))
  cases q
  all_goals (go_wp2; go_ret; exact ⟨rfl, HG4.out⟩)
end Go.Proofs.YtgjjcmhlmdfccaaGreatDoor
