/- What mayBe of package txn answers, for every request: by its bits, and by isBounded's answer. -/
import Derived.Test.YtoeialngbbfoeaaGreatDoorChk2J
import Derived.Test.YtoeialngbbfoeaaGreatDoorWrTJ
namespace Go.Proofs.YtoeialngbbfoeaaGreatDoor
open Go.RowKit
set_option maxRecDepth 8000

theorem keep13 {W W' : World} {N : Nat} {l0 l1 r0 r1 r2 r3 r4 r5 r6 r7 r8 r9 r10 : Value} (hb : Below W.heap.size W W') (h : W.cell? ⟨N, 0, none⟩ = some l0 ∧ W.cell? ⟨N, 1, none⟩ = some l1 ∧ W.cell? ⟨(N + 1), 0, none⟩ = some r0 ∧ W.cell? ⟨(N + 1), 1, none⟩ = some r1 ∧ W.cell? ⟨(N + 1), 2, none⟩ = some r2 ∧ W.cell? ⟨(N + 1), 3, none⟩ = some r3 ∧ W.cell? ⟨(N + 1), 4, none⟩ = some r4 ∧ W.cell? ⟨(N + 1), 5, none⟩ = some r5 ∧ W.cell? ⟨(N + 1), 6, none⟩ = some r6 ∧ W.cell? ⟨(N + 1), 7, none⟩ = some r7 ∧ W.cell? ⟨(N + 1), 8, none⟩ = some r8 ∧ W.cell? ⟨(N + 1), 9, none⟩ = some r9 ∧ W.cell? ⟨(N + 1), 10, none⟩ = some r10) :
    W'.cell? ⟨N, 0, none⟩ = some l0 ∧ W'.cell? ⟨N, 1, none⟩ = some l1 ∧ W'.cell? ⟨(N + 1), 0, none⟩ = some r0 ∧ W'.cell? ⟨(N + 1), 1, none⟩ = some r1 ∧ W'.cell? ⟨(N + 1), 2, none⟩ = some r2 ∧ W'.cell? ⟨(N + 1), 3, none⟩ = some r3 ∧ W'.cell? ⟨(N + 1), 4, none⟩ = some r4 ∧ W'.cell? ⟨(N + 1), 5, none⟩ = some r5 ∧ W'.cell? ⟨(N + 1), 6, none⟩ = some r6 ∧ W'.cell? ⟨(N + 1), 7, none⟩ = some r7 ∧ W'.cell? ⟨(N + 1), 8, none⟩ = some r8 ∧ W'.cell? ⟨(N + 1), 9, none⟩ = some r9 ∧ W'.cell? ⟨(N + 1), 10, none⟩ = some r10 :=
  ⟨cell_later h.1 hb (Nat.le_refl _), cell_later h.2.1 hb (Nat.le_refl _), cell_later h.2.2.1 hb (Nat.le_refl _), cell_later h.2.2.2.1 hb (Nat.le_refl _), cell_later h.2.2.2.2.1 hb (Nat.le_refl _), cell_later h.2.2.2.2.2.1 hb (Nat.le_refl _), cell_later h.2.2.2.2.2.2.1 hb (Nat.le_refl _), cell_later h.2.2.2.2.2.2.2.1 hb (Nat.le_refl _), cell_later h.2.2.2.2.2.2.2.2.1 hb (Nat.le_refl _), cell_later h.2.2.2.2.2.2.2.2.2.1 hb (Nat.le_refl _), cell_later h.2.2.2.2.2.2.2.2.2.2.1 hb (Nat.le_refl _), cell_later h.2.2.2.2.2.2.2.2.2.2.2.1 hb (Nat.le_refl _), cell_later h.2.2.2.2.2.2.2.2.2.2.2.2 hb (Nat.le_refl _)⟩

set_option maxHeartbeats 2000000 in
theorem mayBe_bits (last wo k : Int) (s : ByteArray) (da aa wa oa : Option Addr) (dl dc al ac wl wc ol oc : Nat) (ver : Int) (eph seq : Bool) (ses tmo : Int) (x z : Int) (q : Bool) (w : World) (hn : Nam w) (hl : last ≤ 12)
    (hx : nms last wo k = x) (hz : fillz (!s.toList.isEmpty) (decide (0 < dl)) (decide (0 < al)) (ver != 0) eph seq (ses != 0) (tmo != 0) (decide (0 < wl)) (decide (0 < ol)) = z)
    (hb : ∀ W : World, Below w.heap.size w W → Calls Tryz.prog 139 #[.agg #[.int .i8 k, .string s, .slice da dl dc, .slice aa al ac, .int .i32 ver, .bool eph, .bool seq, .int .i64 ses, .int .i32 tmo, .slice wa wl wc, .slice oa ol oc]] W fun r W' => r = .returned (.bool q) ∧ Below W.heap.size W W') :
    Calls Tryz.prog 108 #[lay last wo, .agg #[.int .i8 k, .string s, .slice da dl dc, .slice aa al ac, .int .i32 ver, .bool eph, .bool seq, .int .i64 ses, .int .i32 tmo, .slice wa wl wc, .slice oa ol oc]] w
      fun r w' => r = .returned (.bool ((x != 0) && (bits .andNot .u16 z x == 0) && (bits .andNot .u16 (need k) z == 0) && q)) ∧ Below w.heap.size w w' := by
  have HX : Hid (∀ W : World, Nam W → Calls Tryz.prog 111 #[lay last wo, .int .i8 k] W fun r w' => r = .returned (.int .u16 x) ∧ Below W.heap.size W w') := fun W h => by
    rw [← hx]; exact names_any last wo k W h hl
  have HZ : Hid (∀ W : World, Calls Tryz.prog 137 #[.agg #[.int .i8 k, .string s, .slice da dl dc, .slice aa al ac, .int .i32 ver, .bool eph, .bool seq, .int .i64 ses, .int .i32 tmo, .slice wa wl wc, .slice oa ol oc]] W fun r w' => r = .returned (.int .u16 z) ∧ Below W.heap.size W w') := fun W => by
    rw [← hz]; exact filled_any k s da aa wa oa dl dc al ac wl wc ol oc ver eph seq ses tmo W
  have HB : Hid _ := hb
  have HN : Hid (∀ W, Below w.heap.size w W → Nam W) := fun W h => hn.below h hn.lt
  have HL : Hid (∀ o o' : Obj, Below w.heap.size w ((w.alloc o).alloc o').drew) := fun o o' => below_drewN (two_alloc w o o') 1
  clear hx hz hb hn
  go_enter Tryz.func108, Tryz.ntmps108
  go_wp2_with fail
  generalize eW0 : ((w.alloc (.cells #[.int .i8 last, .int .u16 wo] 114)).alloc (.cells #[.int .i8 k, .string s, .slice da dl dc, .slice aa al ac, .int .i32 ver, .bool eph, .bool seq, .int .i64 ses, .int .i32 tmo, .slice wa wl wc, .slice oa ol oc] 33)) = W0
  have k0 : W0.drew.cell? ⟨w.heap.size, 0, none⟩ = some (.int .i8 last) ∧ W0.drew.cell? ⟨w.heap.size, 1, none⟩ = some (.int .u16 wo) ∧ W0.drew.cell? ⟨(w.heap.size + 1), 0, none⟩ = some (.int .i8 k) ∧ W0.drew.cell? ⟨(w.heap.size + 1), 1, none⟩ = some (.string s) ∧ W0.drew.cell? ⟨(w.heap.size + 1), 2, none⟩ = some (.slice da dl dc) ∧ W0.drew.cell? ⟨(w.heap.size + 1), 3, none⟩ = some (.slice aa al ac) ∧ W0.drew.cell? ⟨(w.heap.size + 1), 4, none⟩ = some (.int .i32 ver) ∧ W0.drew.cell? ⟨(w.heap.size + 1), 5, none⟩ = some (.bool eph) ∧ W0.drew.cell? ⟨(w.heap.size + 1), 6, none⟩ = some (.bool seq) ∧ W0.drew.cell? ⟨(w.heap.size + 1), 7, none⟩ = some (.int .i64 ses) ∧ W0.drew.cell? ⟨(w.heap.size + 1), 8, none⟩ = some (.int .i32 tmo) ∧ W0.drew.cell? ⟨(w.heap.size + 1), 9, none⟩ = some (.slice wa wl wc) ∧ W0.drew.cell? ⟨(w.heap.size + 1), 10, none⟩ = some (.slice oa ol oc) := by
    subst eW0
    refine ⟨?_, ?_, ?_, ?_, ?_, ?_, ?_, ?_, ?_, ?_, ?_, ?_, ?_⟩
    iterate 2 (show World.cell? ((w.alloc _).alloc _) _ = _; rw [World.cell?_alloc_lt _ _ _ (by simp), cell_of_row _ _ _ _ _ _ (heap_alloc_new _ _)]; rfl)
    all_goals (show World.cell? ((w.alloc _).alloc _) _ = _; rw [cell_of_row _ _ _ _ _ _ (by have := heap_alloc_new (w.alloc (.cells #[.int .i8 last, .int .u16 wo] 114)) (.cells #[.int .i8 k, .string s, .slice da dl dc, .slice aa al ac, .int .i32 ver, .bool eph, .bool seq, .int .i64 ses, .int .i32 tmo, .slice wa wl wc, .slice oa ol oc] 33 (0, 0)); simpa using this)]; rfl)
  have g0 : Below w.heap.size w W0.drew := by subst eW0; exact HL.out _ _
  have HG0 : Hid (Below w.heap.size w W0.drew) := g0
  clear HL eW0 g0
  go_region_held (fun w' => w'.cell? ⟨w.heap.size, 0, none⟩ = some (.int .i8 last) ∧ w'.cell? ⟨w.heap.size, 1, none⟩ = some (.int .u16 wo) ∧ w'.cell? ⟨(w.heap.size + 1), 0, none⟩ = some (.int .i8 k) ∧ w'.cell? ⟨(w.heap.size + 1), 1, none⟩ = some (.string s) ∧ w'.cell? ⟨(w.heap.size + 1), 2, none⟩ = some (.slice da dl dc) ∧ w'.cell? ⟨(w.heap.size + 1), 3, none⟩ = some (.slice aa al ac) ∧ w'.cell? ⟨(w.heap.size + 1), 4, none⟩ = some (.int .i32 ver) ∧ w'.cell? ⟨(w.heap.size + 1), 5, none⟩ = some (.bool eph) ∧ w'.cell? ⟨(w.heap.size + 1), 6, none⟩ = some (.bool seq) ∧ w'.cell? ⟨(w.heap.size + 1), 7, none⟩ = some (.int .i64 ses) ∧ w'.cell? ⟨(w.heap.size + 1), 8, none⟩ = some (.int .i32 tmo) ∧ w'.cell? ⟨(w.heap.size + 1), 9, none⟩ = some (.slice wa wl wc) ∧ w'.cell? ⟨(w.heap.size + 1), 10, none⟩ = some (.slice oa ol oc)) (first | exact k0 | exact k1 | exact k2)
    (first
    | (go_at_call 111; refine (HX.out _ (HN.out _ HG0.out)).mono ?_; rintro r w1 ⟨rfl, g1⟩; have HG1 : Hid (Below w.heap.size w w1) := HG0.out.trans (g1.mono HG0.out.size); have k1 := keep13 g1 k0; clear k0 HG0 g1)
    | (go_at_call 137; refine (HZ.out _).mono ?_; rintro r w2 ⟨rfl, g1⟩; have HG2 : Hid (Below w.heap.size w w2) := HG1.out.trans (g1.mono HG1.out.size); have k2 := keep13 g1 k1; clear k1 HG1 g1))
  clear HX HZ HN
  go_wp2_with fail
  · go_ret
    refine ⟨?_, HG2.out⟩
    have h : x = 0 := by assumption
    rw [h]; rfl
  · refine (needed_any k _).mono ?_
    rintro r w3 ⟨rfl, rfl⟩
    by_cases h3 : bits .andNot .u16 (need k) z = 0
    · go_wp2_with fail
      refine (HB.out _ HG2.out).mono ?_
      rintro r w4 ⟨rfl, g4⟩
      have HG4 : Hid (Below w.heap.size w w4) := HG2.out.trans (g4.mono HG2.out.size)
      clear g4 k2 HG2
      go_wp2
      go_ret
      refine ⟨?_, HG4.out⟩
      have h1 : (x != 0) = true := by simp; assumption
      have h2 : bits .andNot .u16 z x = 0 := by assumption
      rw [h1]
      simp [h2, h3]
    · go_wp2_with fail
      go_ret
      refine ⟨?_, HG2.out⟩
      simp [h3]
  · go_ret
    refine ⟨?_, HG2.out⟩
    have h2 : ¬ bits .andNot .u16 z x = 0 := by assumption
    simp [h2]
end Go.Proofs.YtoeialngbbfoeaaGreatDoor

/- What txn.Check answers where the zxid and the origin may be: by mayBe's answer. -/
namespace Go.Proofs.YtoeialngbbfoeaaGreatDoor
open Go.RowKit
set_option maxRecDepth 8000

theorem keep16 {W W' : World} {N : Nat} {r0 r1 r2 r3 r4 r5 r6 r7 r8 r9 r10 r11 r12 r13 r14 r15 : Value} (hb : Below W.heap.size W W') (h : W.cell? ⟨N, 0, none⟩ = some r0 ∧ W.cell? ⟨N, 1, none⟩ = some r1 ∧ W.cell? ⟨N, 2, none⟩ = some r2 ∧ W.cell? ⟨N, 3, none⟩ = some r3 ∧ W.cell? ⟨N, 4, none⟩ = some r4 ∧ W.cell? ⟨N, 5, none⟩ = some r5 ∧ W.cell? ⟨N, 6, none⟩ = some r6 ∧ W.cell? ⟨N, 7, none⟩ = some r7 ∧ W.cell? ⟨N, 8, none⟩ = some r8 ∧ W.cell? ⟨N, 9, none⟩ = some r9 ∧ W.cell? ⟨N, 10, none⟩ = some r10 ∧ W.cell? ⟨N, 11, none⟩ = some r11 ∧ W.cell? ⟨N, 12, none⟩ = some r12 ∧ W.cell? ⟨N, 13, none⟩ = some r13 ∧ W.cell? ⟨N, 14, none⟩ = some r14 ∧ W.cell? ⟨N, 15, none⟩ = some r15) :
    W'.cell? ⟨N, 0, none⟩ = some r0 ∧ W'.cell? ⟨N, 1, none⟩ = some r1 ∧ W'.cell? ⟨N, 2, none⟩ = some r2 ∧ W'.cell? ⟨N, 3, none⟩ = some r3 ∧ W'.cell? ⟨N, 4, none⟩ = some r4 ∧ W'.cell? ⟨N, 5, none⟩ = some r5 ∧ W'.cell? ⟨N, 6, none⟩ = some r6 ∧ W'.cell? ⟨N, 7, none⟩ = some r7 ∧ W'.cell? ⟨N, 8, none⟩ = some r8 ∧ W'.cell? ⟨N, 9, none⟩ = some r9 ∧ W'.cell? ⟨N, 10, none⟩ = some r10 ∧ W'.cell? ⟨N, 11, none⟩ = some r11 ∧ W'.cell? ⟨N, 12, none⟩ = some r12 ∧ W'.cell? ⟨N, 13, none⟩ = some r13 ∧ W'.cell? ⟨N, 14, none⟩ = some r14 ∧ W'.cell? ⟨N, 15, none⟩ = some r15 :=
  ⟨cell_later h.1 hb (Nat.le_refl _), cell_later h.2.1 hb (Nat.le_refl _), cell_later h.2.2.1 hb (Nat.le_refl _), cell_later h.2.2.2.1 hb (Nat.le_refl _), cell_later h.2.2.2.2.1 hb (Nat.le_refl _), cell_later h.2.2.2.2.2.1 hb (Nat.le_refl _), cell_later h.2.2.2.2.2.2.1 hb (Nat.le_refl _), cell_later h.2.2.2.2.2.2.2.1 hb (Nat.le_refl _), cell_later h.2.2.2.2.2.2.2.2.1 hb (Nat.le_refl _), cell_later h.2.2.2.2.2.2.2.2.2.1 hb (Nat.le_refl _), cell_later h.2.2.2.2.2.2.2.2.2.2.1 hb (Nat.le_refl _), cell_later h.2.2.2.2.2.2.2.2.2.2.2.1 hb (Nat.le_refl _), cell_later h.2.2.2.2.2.2.2.2.2.2.2.2.1 hb (Nat.le_refl _), cell_later h.2.2.2.2.2.2.2.2.2.2.2.2.2.1 hb (Nat.le_refl _), cell_later h.2.2.2.2.2.2.2.2.2.2.2.2.2.2.1 hb (Nat.le_refl _), cell_later h.2.2.2.2.2.2.2.2.2.2.2.2.2.2.2 hb (Nat.le_refl _)⟩

set_option maxHeartbeats 2000000 in
theorem check_ok (e n sv bt nm k : Int) (s : ByteArray) (da aa wa oa : Option Addr) (dl dc al ac wl wc ol oc : Nat) (ver : Int) (eph seq : Bool) (ses tmo : Int) (q : Bool) (w : World) (h0 : 0 ≤ e) (h2 : 0 ≤ n)
    (hz : zxOk e n = true) (hO : origOk sv nm = true)
    (hb : ∀ W : World, Below w.heap.size w W → Calls Tryz.prog 108 #[lay 8 0, .agg #[.int .i8 k, .string s, .slice da dl dc, .slice aa al ac, .int .i32 ver, .bool eph, .bool seq, .int .i64 ses, .int .i32 tmo, .slice wa wl wc, .slice oa ol oc]] W fun r W' => r = .returned (.bool q) ∧ Below W.heap.size W W') :
    Calls Tryz.prog 52 #[.agg #[.int .u32 e, .int .u32 n, .int .i8 sv, .int .u32 bt, .int .i64 nm, .int .i8 k, .string s, .slice da dl dc, .slice aa al ac, .int .i32 ver, .bool eph, .bool seq, .int .i64 ses, .int .i32 tmo, .slice wa wl wc, .slice oa ol oc]] w fun r w' => r = .returned (.int .i64 (if q then 0 else 40)) ∧ Below w.heap.size w w' := by
  have HZ : Hid (∀ W : World, Calls Tryz.prog 106 #[.agg #[.int .u32 e, .int .u32 n]] W fun r w' => r = .returned (.bool true) ∧ Below W.heap.size W w') := fun W => by
    rw [← hz]; exact isZxid_any e n W h0 h2
  have HO : Hid (∀ W : World, Calls Tryz.prog 107 #[.agg #[.int .i8 sv, .int .u32 bt, .int .i64 nm]] W fun r w' => r = .returned (.bool true) ∧ Below W.heap.size W w') := fun W => by
    rw [← hO]; exact isOrigin_any sv bt nm W
  have HB : Hid _ := hb
  have HL : Hid (∀ o : Obj, Below w.heap.size w (w.alloc o).drew) := fun o => below_drewN (one_alloc w o) 1
  clear hb hz hO
  go_enter Tryz.func52, Tryz.ntmps52
  go_wp2_with fail
  generalize eW0 : (w.alloc (.cells #[.int .u32 e, .int .u32 n, .int .i8 sv, .int .u32 bt, .int .i64 nm, .int .i8 k, .string s, .slice da dl dc, .slice aa al ac, .int .i32 ver, .bool eph, .bool seq, .int .i64 ses, .int .i32 tmo, .slice wa wl wc, .slice oa ol oc] 35)) = W0
  have k0 : W0.drew.cell? ⟨w.heap.size, 0, none⟩ = some (.int .u32 e) ∧ W0.drew.cell? ⟨w.heap.size, 1, none⟩ = some (.int .u32 n) ∧ W0.drew.cell? ⟨w.heap.size, 2, none⟩ = some (.int .i8 sv) ∧ W0.drew.cell? ⟨w.heap.size, 3, none⟩ = some (.int .u32 bt) ∧ W0.drew.cell? ⟨w.heap.size, 4, none⟩ = some (.int .i64 nm) ∧ W0.drew.cell? ⟨w.heap.size, 5, none⟩ = some (.int .i8 k) ∧ W0.drew.cell? ⟨w.heap.size, 6, none⟩ = some (.string s) ∧ W0.drew.cell? ⟨w.heap.size, 7, none⟩ = some (.slice da dl dc) ∧ W0.drew.cell? ⟨w.heap.size, 8, none⟩ = some (.slice aa al ac) ∧ W0.drew.cell? ⟨w.heap.size, 9, none⟩ = some (.int .i32 ver) ∧ W0.drew.cell? ⟨w.heap.size, 10, none⟩ = some (.bool eph) ∧ W0.drew.cell? ⟨w.heap.size, 11, none⟩ = some (.bool seq) ∧ W0.drew.cell? ⟨w.heap.size, 12, none⟩ = some (.int .i64 ses) ∧ W0.drew.cell? ⟨w.heap.size, 13, none⟩ = some (.int .i32 tmo) ∧ W0.drew.cell? ⟨w.heap.size, 14, none⟩ = some (.slice wa wl wc) ∧ W0.drew.cell? ⟨w.heap.size, 15, none⟩ = some (.slice oa ol oc) := by
    subst eW0
    refine ⟨?_, ?_, ?_, ?_, ?_, ?_, ?_, ?_, ?_, ?_, ?_, ?_, ?_, ?_, ?_, ?_⟩ <;> (show World.cell? (w.alloc _) _ = _; rw [cell_of_row _ _ _ _ _ _ (heap_alloc_new _ _)]; rfl)
  have HG0 : Hid (Below w.heap.size w W0.drew) := by subst eW0; exact HL.out _
  clear HL eW0
  go_region_held (fun w' => w'.cell? ⟨w.heap.size, 0, none⟩ = some (.int .u32 e) ∧ w'.cell? ⟨w.heap.size, 1, none⟩ = some (.int .u32 n) ∧ w'.cell? ⟨w.heap.size, 2, none⟩ = some (.int .i8 sv) ∧ w'.cell? ⟨w.heap.size, 3, none⟩ = some (.int .u32 bt) ∧ w'.cell? ⟨w.heap.size, 4, none⟩ = some (.int .i64 nm) ∧ w'.cell? ⟨w.heap.size, 5, none⟩ = some (.int .i8 k) ∧ w'.cell? ⟨w.heap.size, 6, none⟩ = some (.string s) ∧ w'.cell? ⟨w.heap.size, 7, none⟩ = some (.slice da dl dc) ∧ w'.cell? ⟨w.heap.size, 8, none⟩ = some (.slice aa al ac) ∧ w'.cell? ⟨w.heap.size, 9, none⟩ = some (.int .i32 ver) ∧ w'.cell? ⟨w.heap.size, 10, none⟩ = some (.bool eph) ∧ w'.cell? ⟨w.heap.size, 11, none⟩ = some (.bool seq) ∧ w'.cell? ⟨w.heap.size, 12, none⟩ = some (.int .i64 ses) ∧ w'.cell? ⟨w.heap.size, 13, none⟩ = some (.int .i32 tmo) ∧ w'.cell? ⟨w.heap.size, 14, none⟩ = some (.slice wa wl wc) ∧ w'.cell? ⟨w.heap.size, 15, none⟩ = some (.slice oa ol oc)) (first | exact k0 | exact k1 | exact k2 | exact k3 | exact k4)
    (first
    | (go_at_call 106; refine (HZ.out _).mono ?_; rintro r w1 ⟨rfl, g1⟩; have HG1 : Hid (Below w.heap.size w w1) := HG0.out.trans (g1.mono HG0.out.size); have k1 := keep16 g1 k0; clear k0 HG0 g1)
    | (go_at_call 107; refine (HO.out _).mono ?_; rintro r w2 ⟨rfl, g2⟩; have HG2 : Hid (Below w.heap.size w w2) := HG1.out.trans (g2.mono HG1.out.size); have k2 := keep16 g2 k1; clear k1 HG1 g2)
    | (go_at_call 56; refine (proposed_any _).mono ?_; rintro r w3 ⟨rfl, g3⟩; have HG3 : Hid (Below w.heap.size w w3) := HG2.out.trans (g3.mono HG2.out.size); have k3 := keep16 g3 k2; clear k2 HG2 g3)
    | (go_at_call 108; refine (HB.out _ HG3.out).mono ?_; rintro r w4 ⟨rfl, g4⟩; have HG4 : Hid (Below w.heap.size w w4) := HG3.out.trans (g4.mono HG3.out.size); have k4 := keep16 g4 k3; clear k3 HG3 g4))
  cases q
  all_goals (go_wp2; go_ret; exact ⟨rfl, HG4.out⟩)
end Go.Proofs.YtoeialngbbfoeaaGreatDoor

/- What txn.Write answers of a transaction that may be, by what put lays of its request. -/
namespace Go.Proofs.YtoeialngbbfoeaaGreatDoor
open Go.RowKit
set_option maxRecDepth 8000

/-- The bytes ahead of a transaction's request. -/
def headB (e n sv bt nm : Int) : List Int := be4 e ++ be4 n ++ [sv % 256] ++ be4 bt ++ be8 (up64 nm)

set_option maxHeartbeats 4000000 in
theorem write_ok (e n sv bt nm k : Int) (s : ByteArray) (da aa wa oa : Option Addr) (dl dc al ac wl wc ol oc : Nat) (ver : Int) (eph seq : Bool) (ses tmo : Int) (E : List Int) (w : World) (h0 : 0 ≤ e) (h1 : e ≤ 4294967295) (h2 : 0 ≤ n) (h3 : n ≤ 4294967295) (h4 : 0 ≤ bt) (h5 : bt ≤ 4294967295) (hE : E.length ≤ 1000000000000)
    (hck : ∀ W : World, Below w.heap.size w W → Calls Tryz.prog 52 #[.agg #[.int .u32 e, .int .u32 n, .int .i8 sv, .int .u32 bt, .int .i64 nm, .int .i8 k, .string s, .slice da dl dc, .slice aa al ac, .int .i32 ver, .bool eph, .bool seq, .int .i64 ses, .int .i32 tmo, .slice wa wl wc, .slice oa ol oc]] W fun r W' => r = .returned (.int .i64 0) ∧ Below W.heap.size W W')
    (hpt : ∀ (W : World) (g : Nat) (v : Value) (xs : List Int), Below w.heap.size w W → IsW W g v xs → xs.length ≤ 1000 → w.heap.size ≤ g → (∀ j, v.ownBlock = some j → w.heap.size ≤ j) → Calls Tryz.prog 57 #[lay 8 0, .pointer (some ⟨g, 0, none⟩), .agg #[.int .i8 k, .string s, .slice da dl dc, .slice aa al ac, .int .i32 ver, .bool eph, .bool seq, .int .i64 ses, .int .i32 tmo, .slice wa wl wc, .slice oa ol oc]] W fun r W' => r = .returned (.tuple #[]) ∧ Puts W g v (xs ++ E) W') :
    Calls Tryz.prog 15 #[.agg #[.int .u32 e, .int .u32 n, .int .i8 sv, .int .u32 bt, .int .i64 nm, .int .i8 k, .string s, .slice da dl dc, .slice aa al ac, .int .i32 ver, .bool eph, .bool seq, .int .i64 ses, .int .i32 tmo, .slice wa wl wc, .slice oa ol oc]] w fun r w' => ∃ v, r = .returned (.tuple #[v, .int .i64 0]) ∧ Owns w' w.heap.size v (headB e n sv bt nm ++ E) ∧ Below w.heap.size w w' := by
  have HCK : Hid _ := hck
  have HPT : Hid _ := hpt
  obtain ⟨W0, eW⟩ : ∃ W0, W0 = w.alloc (.cells #[.int .u32 e, .int .u32 n, .int .i8 sv, .int .u32 bt, .int .i64 nm, .int .i8 k, .string s, .slice da dl dc, .slice aa al ac, .int .i32 ver, .bool eph, .bool seq, .int .i64 ses, .int .i32 tmo, .slice wa wl wc, .slice oa ol oc] 35) := ⟨_, rfl⟩
  have HE0 : Hid _ := eW
  have k0 : W0.cell? ⟨w.heap.size, 0, none⟩ = some (.int .u32 e) ∧ W0.cell? ⟨w.heap.size, 1, none⟩ = some (.int .u32 n) ∧ W0.cell? ⟨w.heap.size, 2, none⟩ = some (.int .i8 sv) ∧ W0.cell? ⟨w.heap.size, 3, none⟩ = some (.int .u32 bt) ∧ W0.cell? ⟨w.heap.size, 4, none⟩ = some (.int .i64 nm) ∧ W0.cell? ⟨w.heap.size, 5, none⟩ = some (.int .i8 k) ∧ W0.cell? ⟨w.heap.size, 6, none⟩ = some (.string s) ∧ W0.cell? ⟨w.heap.size, 7, none⟩ = some (.slice da dl dc) ∧ W0.cell? ⟨w.heap.size, 8, none⟩ = some (.slice aa al ac) ∧ W0.cell? ⟨w.heap.size, 9, none⟩ = some (.int .i32 ver) ∧ W0.cell? ⟨w.heap.size, 10, none⟩ = some (.bool eph) ∧ W0.cell? ⟨w.heap.size, 11, none⟩ = some (.bool seq) ∧ W0.cell? ⟨w.heap.size, 12, none⟩ = some (.int .i64 ses) ∧ W0.cell? ⟨w.heap.size, 13, none⟩ = some (.int .i32 tmo) ∧ W0.cell? ⟨w.heap.size, 14, none⟩ = some (.slice wa wl wc) ∧ W0.cell? ⟨w.heap.size, 15, none⟩ = some (.slice oa ol oc) := by
    subst eW
    refine ⟨?_, ?_, ?_, ?_, ?_, ?_, ?_, ?_, ?_, ?_, ?_, ?_, ?_, ?_, ?_, ?_⟩ <;> (rw [cell_of_row _ _ _ _ _ _ (heap_alloc_new _ _)]; rfl)
  have HB0 : Hid (Below w.heap.size w W0) := by subst eW; exact one_alloc _ _
  have HK0 : Hid _ := k0
  clear hck hpt eW k0
  go_enter Tryz.func15, Tryz.ntmps15
  go_wp2_with fail
  rw [← HE0.out]
  refine (HCK.out _ HB0.out).mono ?_
  rintro r w1 ⟨rfl, b1⟩
  have HB1 : Hid (Below w.heap.size w w1) := HB0.out.trans (b1.mono HB0.out.size)
  have HK1 : Hid _ := keep16 b1 HK0.out
  clear b1 HB0 HK0 HCK HE0
  obtain ⟨V, eV⟩ : ∃ V, V = w1.alloc (.cells #[.slice none 0 0] 108) := ⟨_, rfl⟩
  have HP0 : Hid (Puts V w1.heap.size (.slice none 0 0) [] V) := by
    subst eV
    exact ⟨_, ⟨heap_alloc_new _ _, World.ownsRow_nil _ _ _ _⟩, .inl rfl, Kept.refl _ _⟩
  have HC : Hid (∀ zs W, Puts V w1.heap.size (.slice none 0 0) zs W → W.cell? ⟨w.heap.size, 0, none⟩ = some (.int .u32 e) ∧ W.cell? ⟨w.heap.size, 1, none⟩ = some (.int .u32 n) ∧ W.cell? ⟨w.heap.size, 2, none⟩ = some (.int .i8 sv) ∧ W.cell? ⟨w.heap.size, 3, none⟩ = some (.int .u32 bt) ∧ W.cell? ⟨w.heap.size, 4, none⟩ = some (.int .i64 nm) ∧ W.cell? ⟨w.heap.size, 5, none⟩ = some (.int .i8 k) ∧ W.cell? ⟨w.heap.size, 6, none⟩ = some (.string s) ∧ W.cell? ⟨w.heap.size, 7, none⟩ = some (.slice da dl dc) ∧ W.cell? ⟨w.heap.size, 8, none⟩ = some (.slice aa al ac) ∧ W.cell? ⟨w.heap.size, 9, none⟩ = some (.int .i32 ver) ∧ W.cell? ⟨w.heap.size, 10, none⟩ = some (.bool eph) ∧ W.cell? ⟨w.heap.size, 11, none⟩ = some (.bool seq) ∧ W.cell? ⟨w.heap.size, 12, none⟩ = some (.int .i64 ses) ∧ W.cell? ⟨w.heap.size, 13, none⟩ = some (.int .i32 tmo) ∧ W.cell? ⟨w.heap.size, 14, none⟩ = some (.slice wa wl wc) ∧ W.cell? ⟨w.heap.size, 15, none⟩ = some (.slice oa ol oc)) := by
    intro zs W hp
    have hk : V.cell? ⟨w.heap.size, 0, none⟩ = some (.int .u32 e) ∧ V.cell? ⟨w.heap.size, 1, none⟩ = some (.int .u32 n) ∧ V.cell? ⟨w.heap.size, 2, none⟩ = some (.int .i8 sv) ∧ V.cell? ⟨w.heap.size, 3, none⟩ = some (.int .u32 bt) ∧ V.cell? ⟨w.heap.size, 4, none⟩ = some (.int .i64 nm) ∧ V.cell? ⟨w.heap.size, 5, none⟩ = some (.int .i8 k) ∧ V.cell? ⟨w.heap.size, 6, none⟩ = some (.string s) ∧ V.cell? ⟨w.heap.size, 7, none⟩ = some (.slice da dl dc) ∧ V.cell? ⟨w.heap.size, 8, none⟩ = some (.slice aa al ac) ∧ V.cell? ⟨w.heap.size, 9, none⟩ = some (.int .i32 ver) ∧ V.cell? ⟨w.heap.size, 10, none⟩ = some (.bool eph) ∧ V.cell? ⟨w.heap.size, 11, none⟩ = some (.bool seq) ∧ V.cell? ⟨w.heap.size, 12, none⟩ = some (.int .i64 ses) ∧ V.cell? ⟨w.heap.size, 13, none⟩ = some (.int .i32 tmo) ∧ V.cell? ⟨w.heap.size, 14, none⟩ = some (.slice wa wl wc) ∧ V.cell? ⟨w.heap.size, 15, none⟩ = some (.slice oa ol oc) := by subst eV; exact keep16 (one_alloc w1 _) HK1.out
    have hne : w.heap.size ≠ w1.heap.size := fun e => by
      have := World.block_lt_of_cell? w1 _ HK1.out.1
      have : w.heap.size < w1.heap.size := this
      omega
    have hz : ∀ {j : Nat} {u : Value}, V.cell? ⟨w.heap.size, j, none⟩ = some u → W.cell? ⟨w.heap.size, j, none⟩ = some u := fun hc => hp.cell hc hne (fun e => by simp [Value.ownBlock] at e)
    exact ⟨hz hk.1, hz hk.2.1, hz hk.2.2.1, hz hk.2.2.2.1, hz hk.2.2.2.2.1, hz hk.2.2.2.2.2.1, hz hk.2.2.2.2.2.2.1, hz hk.2.2.2.2.2.2.2.1, hz hk.2.2.2.2.2.2.2.2.1, hz hk.2.2.2.2.2.2.2.2.2.1, hz hk.2.2.2.2.2.2.2.2.2.2.1, hz hk.2.2.2.2.2.2.2.2.2.2.2.1, hz hk.2.2.2.2.2.2.2.2.2.2.2.2.1, hz hk.2.2.2.2.2.2.2.2.2.2.2.2.2.1, hz hk.2.2.2.2.2.2.2.2.2.2.2.2.2.2.1, hz hk.2.2.2.2.2.2.2.2.2.2.2.2.2.2.2⟩
  have HB : Hid (∀ zs W, Puts V w1.heap.size (.slice none 0 0) zs W → Below w.heap.size w W) := by
    intro zs W hp
    obtain ⟨v', q1, q2, q3⟩ := hp
    have hV : Below w.heap.size w V := by subst eV; exact HB1.out.alloc HB1.out.size _
    refine hV.trans (q3.below hV.size (fun j hj => ?_))
    rcases hj with hj | hj
    · have := HB1.out.size; omega
    · simp [Value.ownBlock] at hj
  have HR : Hid (∀ (v1 : Value) (j : Nat), NewRow V (.slice none 0 0) v1 → v1.ownBlock = some j → w.heap.size ≤ j) := by
    intro v1 j hn hj
    have hV : w1.heap.size ≤ V.heap.size := by subst eV; simp
    have := HB1.out.size
    rcases hn with hn | ⟨i, hn, hi⟩
    · rw [hn] at hj; simp [Value.ownBlock] at hj
    · rw [hn] at hj; simp at hj; omega
  have HE : Hid _ := eV
  clear eV
  obtain ⟨r0, r1, r2, r3, r4, r5, r6, r7, r8, r9, r10, r11, r12, r13, r14, r15⟩ := HC.out _ _ HP0.out
  rw [HE.out] at r0 r1 r2 r3 r4 r5 r6 r7 r8 r9 r10 r11 r12 r13 r14 r15
  go_wp2_with fail
  rw [← HE.out]
  clear r0 r1 r2 r3 r4 r5 r6 r7 r8 r9 r10 r11 r12 r13 r14 r15
  obtain ⟨v1, hW, hN, hK⟩ := HP0.out
  refine (wUint32_any w1.heap.size v1 _ e _ hW h0 (by omega) (by simp)).mono ?_
  rintro r w2 ⟨rfl, hp⟩
  have HP1 : Hid (Puts V w1.heap.size (.slice none 0 0) _ w2) := Puts.next hN hK hp
  clear hp hW hN hK HP0
  obtain ⟨r0, r1, r2, r3, r4, r5, r6, r7, r8, r9, r10, r11, r12, r13, r14, r15⟩ := HC.out _ _ HP1.out
  go_wp2_with fail
  obtain ⟨v1, hW, hN, hK⟩ := HP1.out
  refine (wUint32_any w1.heap.size v1 _ n _ hW h2 (by omega) (by simp [be4])).mono ?_
  rintro r w3 ⟨rfl, hp⟩
  have HP2 : Hid (Puts V w1.heap.size (.slice none 0 0) _ w3) := Puts.next hN hK hp
  clear hp hW hN hK HP1 r0 r1 r2 r3 r4 r5 r6 r7 r8 r9 r10 r11 r12 r13 r14 r15
  obtain ⟨r0, r1, r2, r3, r4, r5, r6, r7, r8, r9, r10, r11, r12, r13, r14, r15⟩ := HC.out _ _ HP2.out
  go_wp2_with fail
  obtain ⟨v1, hW, hN, hK⟩ := HP2.out
  refine (wInt8_any w1.heap.size v1 _ sv _ hW (by simp [be4])).mono ?_
  rintro r w4 ⟨rfl, hp⟩
  have HP3 : Hid (Puts V w1.heap.size (.slice none 0 0) _ w4) := Puts.next hN hK hp
  clear hp hW hN hK HP2 r0 r1 r2 r3 r4 r5 r6 r7 r8 r9 r10 r11 r12 r13 r14 r15
  obtain ⟨r0, r1, r2, r3, r4, r5, r6, r7, r8, r9, r10, r11, r12, r13, r14, r15⟩ := HC.out _ _ HP3.out
  go_wp2_with fail
  obtain ⟨v1, hW, hN, hK⟩ := HP3.out
  refine (wUint32_any w1.heap.size v1 _ bt _ hW h4 (by omega) (by simp [be4])).mono ?_
  rintro r w5 ⟨rfl, hp⟩
  have HP4 : Hid (Puts V w1.heap.size (.slice none 0 0) _ w5) := Puts.next hN hK hp
  clear hp hW hN hK HP3 r0 r1 r2 r3 r4 r5 r6 r7 r8 r9 r10 r11 r12 r13 r14 r15
  obtain ⟨r0, r1, r2, r3, r4, r5, r6, r7, r8, r9, r10, r11, r12, r13, r14, r15⟩ := HC.out _ _ HP4.out
  go_wp2_with fail
  obtain ⟨v1, hW, hN, hK⟩ := HP4.out
  refine (wInt64_any w1.heap.size v1 _ nm _ hW (by simp [be4])).mono ?_
  rintro r w6 ⟨rfl, hp⟩
  have HP5 : Hid (Puts V w1.heap.size (.slice none 0 0) _ w6) := Puts.next hN hK hp
  clear hp hW hN hK HP4 r0 r1 r2 r3 r4 r5 r6 r7 r8 r9 r10 r11 r12 r13 r14 r15
  obtain ⟨r0, r1, r2, r3, r4, r5, r6, r7, r8, r9, r10, r11, r12, r13, r14, r15⟩ := HC.out _ _ HP5.out
  go_wp2_with fail
  have HP6 : Hid (Puts V w1.heap.size (.slice none 0 0) (headB e n sv bt nm) w6.drew) := HP5.out.later (below_drewN (Below.refl _ _) 1)
  have k6 := HC.out _ _ HP6.out
  clear HP5 r0 r1 r2 r3 r4 r5 r6 r7 r8 r9 r10 r11 r12 r13 r14 r15
  go_region_held (fun w' => w'.cell? ⟨w.heap.size, 0, none⟩ = some (.int .u32 e) ∧ w'.cell? ⟨w.heap.size, 1, none⟩ = some (.int .u32 n) ∧ w'.cell? ⟨w.heap.size, 2, none⟩ = some (.int .i8 sv) ∧ w'.cell? ⟨w.heap.size, 3, none⟩ = some (.int .u32 bt) ∧ w'.cell? ⟨w.heap.size, 4, none⟩ = some (.int .i64 nm) ∧ w'.cell? ⟨w.heap.size, 5, none⟩ = some (.int .i8 k) ∧ w'.cell? ⟨w.heap.size, 6, none⟩ = some (.string s) ∧ w'.cell? ⟨w.heap.size, 7, none⟩ = some (.slice da dl dc) ∧ w'.cell? ⟨w.heap.size, 8, none⟩ = some (.slice aa al ac) ∧ w'.cell? ⟨w.heap.size, 9, none⟩ = some (.int .i32 ver) ∧ w'.cell? ⟨w.heap.size, 10, none⟩ = some (.bool eph) ∧ w'.cell? ⟨w.heap.size, 11, none⟩ = some (.bool seq) ∧ w'.cell? ⟨w.heap.size, 12, none⟩ = some (.int .i64 ses) ∧ w'.cell? ⟨w.heap.size, 13, none⟩ = some (.int .i32 tmo) ∧ w'.cell? ⟨w.heap.size, 14, none⟩ = some (.slice wa wl wc) ∧ w'.cell? ⟨w.heap.size, 15, none⟩ = some (.slice oa ol oc)) (first | exact k6 | exact k7 | exact k8)
    (first
    | (go_at_call 56; refine (proposed_any _).mono ?_; rintro r w7 ⟨rfl, b7⟩; have HP7 : Hid (Puts V w1.heap.size (.slice none 0 0) (headB e n sv bt nm) w7) := HP6.out.later b7; have k7 := HC.out _ _ HP7.out; clear b7 HP6 k6)
    | (go_at_call 57; obtain ⟨v1, hW, hN, hK⟩ := HP7.out; refine (HPT.out _ w1.heap.size v1 _ (HB.out _ _ HP7.out) hW ?_ ?_ ?_).mono ?_; (simp [headB, be4, be8]); (exact HB1.out.size); (exact fun j hj => HR.out _ j hN hj); rintro r w8 ⟨rfl, hp⟩; have HP8 : Hid (Puts V w1.heap.size (.slice none 0 0) (headB e n sv bt nm ++ E) w8) := Puts.next hN hK hp; have k8 := HC.out _ _ HP8.out; clear hp hW hN hK HP7 k7))
  go_wp2_with fail
  obtain ⟨v1, hW, hN, hK⟩ := HP8.out
  refine (wBytes_any w1.heap.size v1 _ _ hW (by simp [headB, be4, be8]; omega)).mono ?_
  rintro r w9 ⟨vr, rfl, ho, b9⟩
  have h8 := HB.out _ _ HP8.out
  have HF : Hid (Owns w9 w.heap.size vr (headB e n sv bt nm ++ E) ∧ Below w.heap.size w w9) := ⟨owns_mono ho h8.size, h8.trans (b9.mono h8.size)⟩
  clear hW hN hK HP8 k8 b9 h8 ho
  go_wp2
  go_ret2
  exact ⟨_, rfl, HF.out⟩
end Go.Proofs.YtoeialngbbfoeaaGreatDoor

/- What put of package txn lays of a Delete without ids. -/
namespace Go.Proofs.YtoeialngbbfoeaaGreatDoor
open Go.RowKit
set_option maxRecDepth 8000

theorem nms_del : nms 8 0 2 = 329 := by decide

/-- The bytes of a Delete without ids. -/
def delB (s : ByteArray) (ver ses : Int) : List Int := [2] ++ txtB s ++ be4 (up32 ver) ++ be8 (up64 ses) ++ be4 0

abbrev delAgg (s : ByteArray) (ver ses : Int) : Array Value := #[.int .i8 2, .string s, .slice none 0 0, .slice none 0 0, .int .i32 ver, .bool false, .bool false, .int .i64 ses, .int .i32 0, .slice none 0 0, .slice none 0 0]

set_option maxHeartbeats 2000000 in
theorem put_del (g : Nat) (v : Value) (xs : List Int) (s : ByteArray) (ver ses : Int) (w : World) (h : IsW w g v xs) (hs : s.size ≤ 1000) (hb : xs.length ≤ 1000) (hn : Nam w) (hg : 0 < g) (hv : ∀ k, v.ownBlock = some k → 0 < k) :
    Calls Tryz.prog 57 #[lay 8 0, .pointer (some ⟨g, 0, none⟩), .agg (delAgg s ver ses)] w fun e w' => e = .returned (.tuple #[]) ∧ Puts w g v (xs ++ delB s ver ses) w' := by
  have a1 : bits .and .u16 329 1 = 1 := by decide
  have a2 : bits .and .u16 329 2 = 0 := by decide
  have a3 : bits .and .u16 329 4 = 0 := by decide
  have a4 : bits .and .u16 329 8 = 8 := by decide
  have a5 : bits .and .u16 329 16 = 0 := by decide
  have a6 : bits .and .u16 329 32 = 0 := by decide
  have a7 : bits .and .u16 329 64 = 64 := by decide
  have a8 : bits .and .u16 329 128 = 0 := by decide
  have a9 : bits .and .u16 329 256 = 256 := by decide
  have a10 : bits .and .u16 329 512 = 0 := by decide
  have HL : Hid (g < w.heap.size ∧ ∀ k, v.ownBlock = some k → k < w.heap.size) := h.lt
  obtain ⟨V, eV⟩ : ∃ V, V = ((w.alloc (.cells #[.int .i8 8, .int .u16 0] 114)).alloc (.cells (delAgg s ver ses) 33)) := ⟨_, rfl⟩
  have HV : Hid (IsW V g v xs ∧ Nam V ∧ (∀ zs W, Puts V g v zs W → Puts w g v zs W)) := by
    subst eV
    exact ⟨(h.alloc _).alloc _, hn.below (two_alloc w _ _) hn.lt, fun zs W hp => hp.of_alloc.of_alloc⟩
  have HC : Hid (∀ zs W, Puts V g v zs W → Nam W ∧ W.cell? ⟨w.heap.size, 0, none⟩ = some (.int .i8 8) ∧ W.cell? ⟨w.heap.size, 1, none⟩ = some (.int .u16 0) ∧ W.cell? ⟨w.heap.size + 1, 0, none⟩ = some (.int .i8 2) ∧ W.cell? ⟨w.heap.size + 1, 1, none⟩ = some (.string s) ∧ W.cell? ⟨w.heap.size + 1, 4, none⟩ = some (.int .i32 ver) ∧ W.cell? ⟨w.heap.size + 1, 7, none⟩ = some (.int .i64 ses) ∧ W.cell? ⟨w.heap.size + 1, 9, none⟩ = some (.slice none 0 0)) := by
    intro zs W hp
    have hlt := HL.out
    refine ⟨hp.nam HV.out.2.1 hg hv, ?_, ?_, ?_, ?_, ?_, ?_, ?_⟩
    iterate 2 (refine hp.cell (p := ⟨w.heap.size, _, none⟩) ?_ (by show w.heap.size ≠ g; omega) (fun e => by have h1 := hlt.2 _ e; have : w.heap.size < w.heap.size := h1; omega); subst eV; rw [World.cell?_alloc_lt _ _ _ (by simp), cell_of_row _ _ _ _ _ _ (heap_alloc_new _ _)]; rfl)
    all_goals (refine hp.cell (p := ⟨w.heap.size + 1, _, none⟩) ?_ (by show w.heap.size + 1 ≠ g; omega) (fun e => by have h1 := hlt.2 _ e; have : w.heap.size + 1 < w.heap.size := h1; omega); subst eV; rw [cell_of_row _ _ _ _ _ _ (by have := heap_alloc_new (w.alloc (.cells #[.int .i8 8, .int .u16 0] 114)) (.cells (delAgg s ver ses) 33 (0, 0)); simpa using this)]; rfl)
  have HE : Hid _ := eV
  clear h hn hg hv eV
  go_enter Tryz.func57, Tryz.ntmps57
  go_wp2_with fail
  rw [← HE.out]
  refine (wInt8_any g v xs 2 _ HV.out.1 (by omega)).mono ?_
  rintro e w1 ⟨rfl, hp1⟩
  have HP1 : Hid (Puts V g v (xs ++ [2 % 256]) w1) := hp1
  clear hp1
  obtain ⟨nm, l0, l1, r0, r1, r4, r7, r9⟩ := HC.out _ _ HP1.out
  go_wp2_with fail
  refine (names_any 8 0 2 _ nm (by omega)).mono ?_
  rintro e w2 ⟨rfl, b2⟩
  rw [nms_del]
  have HP2 : Hid (Puts V g v (xs ++ [2 % 256]) w2) := HP1.out.later b2
  clear b2 HP1 nm l0 l1 r0 r1 r4 r7 r9
  obtain ⟨nm, l0, l1, r0, r1, r4, r7, r9⟩ := HC.out _ _ HP2.out
  go_wp2_with fail
  obtain ⟨v3, hW, hN, hK⟩ := HP2.out
  refine (wText_any g v3 _ s _ hW (by omega) (by simp; omega)).mono ?_
  rintro e w3 ⟨rfl, hp⟩
  have HP3 : Hid (Puts V g v _ w3) := Puts.next hN hK hp
  clear hp hW hN hK HP2 nm l0 l1 r0 r1 r4 r7 r9
  obtain ⟨nm, l0, l1, r0, r1, r4, r7, r9⟩ := HC.out _ _ HP3.out
  go_wp2_with fail
  obtain ⟨v4, hW, hN, hK⟩ := HP3.out
  refine (wInt32_any g v4 _ ver _ hW (by simp [be4, txt_len]; omega)).mono ?_
  rintro e w4 ⟨rfl, hp⟩
  have HP4 : Hid (Puts V g v _ w4) := Puts.next hN hK hp
  clear hp hW hN hK HP3 nm l0 l1 r0 r1 r4 r7 r9
  obtain ⟨nm, l0, l1, r0, r1, r4, r7, r9⟩ := HC.out _ _ HP4.out
  go_wp2_with fail
  obtain ⟨v5, hW, hN, hK⟩ := HP4.out
  refine (wInt64_any g v5 _ ses _ hW (by simp [be4, txt_len]; omega)).mono ?_
  rintro e w5 ⟨rfl, hp⟩
  have HP5 : Hid (Puts V g v _ w5) := Puts.next hN hK hp
  clear hp hW hN hK HP4 nm l0 l1 r0 r1 r4 r7 r9
  obtain ⟨nm, l0, l1, r0, r1, r4, r7, r9⟩ := HC.out _ _ HP5.out
  go_wp2_with fail
  obtain ⟨v6, hW, hN, hK⟩ := HP5.out
  refine (putListI_any 8 0 g v6 (.slice none 0 0) _ [] _ hW (SeesR.nil _ _) (by simp) (fun x hx => by simp at hx) (by simp [be4, be8, txt_len]; omega) (fun k hk => by simp [liveB] at hk)).mono ?_
  rintro e w6 ⟨rfl, hp⟩
  have HP6 : Hid (Puts V g v _ w6) := Puts.next hN hK hp
  clear hp hW hN hK HP5 nm l0 l1 r0 r1 r4 r7 r9
  obtain ⟨nm, l0, l1, r0, r1, r4, r7, r9⟩ := HC.out _ _ HP6.out
  go_wp2_with fail
  go_end0
  refine ⟨rfl, HV.out.2.2 _ _ ?_⟩
  have hq := HP6.out
  simpa [delB, txtB, idsB] using hq

end Go.Proofs.YtoeialngbbfoeaaGreatDoor

/- What txn.Check and txn.Write answer of the transaction that the statements' own first look makes. -/
namespace Go.Proofs.YtoeialngbbfoeaaGreatDoor
open Go.RowKit
set_option maxRecDepth 8000

def pathW : ByteArray := ⟨#[47, 97]⟩
abbrev rqW : Array Value := #[.int .i8 2, .string pathW, .slice none 0 0, .slice none 0 0, .int .i32 (-1), .bool false, .bool false, .int .i64 0, .int .i32 0, .slice none 0 0, .slice none 0 0]
abbrev txW : Array Value := #[.int .u32 1, .int .u32 2, .int .i8 3, .int .u32 4, .int .i64 5, .int .i8 2, .string pathW, .slice none 0 0, .slice none 0 0, .int .i32 (-1), .bool false, .bool false, .int .i64 0, .int .i32 0, .slice none 0 0, .slice none 0 0]

theorem pathW_list : pathW.toList = [47, 97] := by simp [pathW]
theorem fillW : fillz (!pathW.toList.isEmpty) (decide (0 < 0)) (decide (0 < 0)) ((-1 : Int) != 0) false false ((0 : Int) != 0) ((0 : Int) != 0) (decide (0 < 0)) (decide (0 < 0)) = 9 := by
  rw [pathW_list]; decide

theorem bounded_works (W : World) : Calls Tryz.prog 139 #[.agg rqW] W fun r w' => r = .returned (.bool true) ∧ Below W.heap.size W w' := by
  have h := isBounded_true ⟨2, pathW, [], [], -1, false, false, 0, 0, []⟩ 0 (fun i => i.elim0) (.slice none 0 0) (.slice none 0 0) (.slice none 0 0) (.slice none 0 0) (fun i => i.elim0) (fun i => i.elim0) W
    ⟨none, 0, rfl, Nat.le_refl _, by unfold maxLen; omega, fun _ => rfl, .inl rfl⟩ (SeesR.nil W 3) (SeesR.nil W 2) (SeesR.nil W 11) (fun i => i.elim0) (by omega) (fun i => i.elim0) (by decide) (by decide) (by decide) (by decide) (by decide) (by decide) (by decide)
  exact h

theorem mayBe_works (W : World) (hn : Nam W) : Calls Tryz.prog 108 #[lay 8 0, .agg rqW] W fun r w' => r = .returned (.bool true) ∧ Below W.heap.size W w' := by
  have h := mayBe_bits 8 0 2 pathW none none none none 0 0 0 0 0 0 0 0 (-1) false false 0 0 329 9 true W hn (by omega) nms_del fillW (fun V _ => bounded_works V)
  have e : ((329 : Int) != 0 && (bits .andNot .u16 9 329 == 0) && (bits .andNot .u16 (need 2) 9 == 0) && true) = true := by decide
  rw [e] at h
  exact h

theorem check_works (W : World) (hn : Nam W) : Calls Tryz.prog 52 #[.agg txW] W fun r w' => r = .returned (.int .i64 0) ∧ Below W.heap.size W w' :=
  check_ok 1 2 3 4 5 2 pathW none none none none 0 0 0 0 0 0 0 0 (-1) false false 0 0 true W (by omega) (by omega) (by decide) (by decide) (fun V hV => mayBe_works V (hn.below hV hn.lt))

/-- The bytes of that transaction. -/
def wkAll : List Int := [0, 0, 0, 1, 0, 0, 0, 2, 3, 0, 0, 0, 4, 0, 0, 0, 0, 0, 0, 0, 5, 2, 0, 0, 0, 2, 47, 97, 255, 255, 255, 255, 0, 0, 0, 0, 0, 0, 0, 0, 0, 0, 0, 0]

theorem txt_pathW : txt pathW = [47, 97] := by rfl
theorem wkAll_eq : headB 1 2 3 4 5 ++ delB pathW (-1) 0 = wkAll := by
  simp [headB, delB, txtB, txt_pathW, be4, be8, up32, up64, wkAll]

theorem write_works (W : World) (hn : Nam W) : Calls Tryz.prog 15 #[.agg txW] W fun r w' => ∃ v, r = .returned (.tuple #[v, .int .i64 0]) ∧ Owns w' W.heap.size v wkAll ∧ Below W.heap.size W w' := by
  rw [← wkAll_eq]
  exact write_ok 1 2 3 4 5 2 pathW none none none none 0 0 0 0 0 0 0 0 (-1) false false 0 0 (delB pathW (-1) 0) W (by omega) (by omega) (by omega) (by omega) (by omega) (by omega) (by decide)
    (fun V hV => check_works V (hn.below hV hn.lt))
    (fun V g v xs hV hW hx hg hv => put_del g v xs pathW (-1) 0 V hW (by decide) hx (hn.below hV hn.lt) (by have := hn.lt; omega) (fun k hk => by have := hv k hk; have := hn.lt; omega))
end Go.Proofs.YtoeialngbbfoeaaGreatDoor
