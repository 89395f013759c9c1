/- What mayBe of package txn answers, for every request: by its bits, and by isBounded's answer. -/
import Derived.Test.YtgaepncccfipeaaDoorWrTJ
namespace Go.Proofs.YtgaepncccfipeaaDoor
open Go.RowKit
set_option maxRecDepth 8000

theorem keep13 {W W' : World} {N : Nat} {l0 l1 r0 r1 r2 r3 r4 r5 r6 r7 r8 r9 r10 : Value} (hb : Below W.heap.size W W') (h : W.cell? ⟨N, 0, none⟩ = some l0 ∧ W.cell? ⟨N, 1, none⟩ = some l1 ∧ W.cell? ⟨(N + 1), 0, none⟩ = some r0 ∧ W.cell? ⟨(N + 1), 1, none⟩ = some r1 ∧ W.cell? ⟨(N + 1), 2, none⟩ = some r2 ∧ W.cell? ⟨(N + 1), 3, none⟩ = some r3 ∧ W.cell? ⟨(N + 1), 4, none⟩ = some r4 ∧ W.cell? ⟨(N + 1), 5, none⟩ = some r5 ∧ W.cell? ⟨(N + 1), 6, none⟩ = some r6 ∧ W.cell? ⟨(N + 1), 7, none⟩ = some r7 ∧ W.cell? ⟨(N + 1), 8, none⟩ = some r8 ∧ W.cell? ⟨(N + 1), 9, none⟩ = some r9 ∧ W.cell? ⟨(N + 1), 10, none⟩ = some r10) :
    W'.cell? ⟨N, 0, none⟩ = some l0 ∧ W'.cell? ⟨N, 1, none⟩ = some l1 ∧ W'.cell? ⟨(N + 1), 0, none⟩ = some r0 ∧ W'.cell? ⟨(N + 1), 1, none⟩ = some r1 ∧ W'.cell? ⟨(N + 1), 2, none⟩ = some r2 ∧ W'.cell? ⟨(N + 1), 3, none⟩ = some r3 ∧ W'.cell? ⟨(N + 1), 4, none⟩ = some r4 ∧ W'.cell? ⟨(N + 1), 5, none⟩ = some r5 ∧ W'.cell? ⟨(N + 1), 6, none⟩ = some r6 ∧ W'.cell? ⟨(N + 1), 7, none⟩ = some r7 ∧ W'.cell? ⟨(N + 1), 8, none⟩ = some r8 ∧ W'.cell? ⟨(N + 1), 9, none⟩ = some r9 ∧ W'.cell? ⟨(N + 1), 10, none⟩ = some r10 :=
  ⟨cell_later h.1 hb (Nat.le_refl _), cell_later h.2.1 hb (Nat.le_refl _), cell_later h.2.2.1 hb (Nat.le_refl _), cell_later h.2.2.2.1 hb (Nat.le_refl _), cell_later h.2.2.2.2.1 hb (Nat.le_refl _), cell_later h.2.2.2.2.2.1 hb (Nat.le_refl _), cell_later h.2.2.2.2.2.2.1 hb (Nat.le_refl _), cell_later h.2.2.2.2.2.2.2.1 hb (Nat.le_refl _), cell_later h.2.2.2.2.2.2.2.2.1 hb (Nat.le_refl _), cell_later h.2.2.2.2.2.2.2.2.2.1 hb (Nat.le_refl _), cell_later h.2.2.2.2.2.2.2.2.2.2.1 hb (Nat.le_refl _), cell_later h.2.2.2.2.2.2.2.2.2.2.2.1 hb (Nat.le_refl _), cell_later h.2.2.2.2.2.2.2.2.2.2.2.2 hb (Nat.le_refl _)⟩

set_option maxHeartbeats 2000000 in
theorem mayBe_bits (last wo k : Int) (s : ByteArray) (da aa wa oa : Option Addr) (dl dc al ac wl wc ol oc : Nat) (ver : Int) (eph seq : Bool) (ses tmo : Int) (x z : Int) (q : Bool) (w : World) (hn : Nam w) (hl : last ≤ 12)
    (hx : nms last wo k = x) (hz : fillz (!s.toList.isEmpty) (decide (0 < dl)) (decide (0 < al)) (ver != 0) eph seq (ses != 0) (tmo != 0) (decide (0 < wl)) (decide (0 < ol)) = z)
    (hb : ∀ W : World, Below w.heap.size w W → Calls Tryd.prog 52 #[.agg #[.int .i8 k, .string s, .slice da dl dc, .slice aa al ac, .int .i32 ver, .bool eph, .bool seq, .int .i64 ses, .int .i32 tmo, .slice wa wl wc, .slice oa ol oc]] W fun r W' => r = .returned (.bool q) ∧ Below W.heap.size W W') :
    Calls Tryd.prog 22 #[lay last wo, .agg #[.int .i8 k, .string s, .slice da dl dc, .slice aa al ac, .int .i32 ver, .bool eph, .bool seq, .int .i64 ses, .int .i32 tmo, .slice wa wl wc, .slice oa ol oc]] w
      fun r w' => r = .returned (.bool ((x != 0) && (bits .andNot .u16 z x == 0) && (bits .andNot .u16 (need k) z == 0) && q)) ∧ Below w.heap.size w w' := by
  have HX : Hid (∀ W : World, Nam W → Calls Tryd.prog 34 #[lay last wo, .int .i8 k] W fun r w' => r = .returned (.int .u16 x) ∧ Below W.heap.size W w') := fun W h => by
    rw [← hx]; exact names_any last wo k W h hl
  have HZ : Hid (∀ W : World, Calls Tryd.prog 50 #[.agg #[.int .i8 k, .string s, .slice da dl dc, .slice aa al ac, .int .i32 ver, .bool eph, .bool seq, .int .i64 ses, .int .i32 tmo, .slice wa wl wc, .slice oa ol oc]] W fun r w' => r = .returned (.int .u16 z) ∧ Below W.heap.size W w') := fun W => by
    rw [← hz]; exact filled_any k s da aa wa oa dl dc al ac wl wc ol oc ver eph seq ses tmo W
  have HB : Hid _ := hb
  have HN : Hid (∀ W, Below w.heap.size w W → Nam W) := fun W h => hn.below h hn.lt
  have HL : Hid (∀ o o' : Obj, Below w.heap.size w ((w.alloc o).alloc o').drew) := fun o o' => below_drewN (two_alloc w o o') 1
  clear hx hz hb hn
  go_enter Tryd.func22, Tryd.ntmps22
  go_wp2_with fail
  generalize eW0 : ((w.alloc (.cells #[.int .i8 last, .int .u16 wo] 55)).alloc (.cells #[.int .i8 k, .string s, .slice da dl dc, .slice aa al ac, .int .i32 ver, .bool eph, .bool seq, .int .i64 ses, .int .i32 tmo, .slice wa wl wc, .slice oa ol oc] 33)) = W0
  have k0 : W0.drew.cell? ⟨w.heap.size, 0, none⟩ = some (.int .i8 last) ∧ W0.drew.cell? ⟨w.heap.size, 1, none⟩ = some (.int .u16 wo) ∧ W0.drew.cell? ⟨(w.heap.size + 1), 0, none⟩ = some (.int .i8 k) ∧ W0.drew.cell? ⟨(w.heap.size + 1), 1, none⟩ = some (.string s) ∧ W0.drew.cell? ⟨(w.heap.size + 1), 2, none⟩ = some (.slice da dl dc) ∧ W0.drew.cell? ⟨(w.heap.size + 1), 3, none⟩ = some (.slice aa al ac) ∧ W0.drew.cell? ⟨(w.heap.size + 1), 4, none⟩ = some (.int .i32 ver) ∧ W0.drew.cell? ⟨(w.heap.size + 1), 5, none⟩ = some (.bool eph) ∧ W0.drew.cell? ⟨(w.heap.size + 1), 6, none⟩ = some (.bool seq) ∧ W0.drew.cell? ⟨(w.heap.size + 1), 7, none⟩ = some (.int .i64 ses) ∧ W0.drew.cell? ⟨(w.heap.size + 1), 8, none⟩ = some (.int .i32 tmo) ∧ W0.drew.cell? ⟨(w.heap.size + 1), 9, none⟩ = some (.slice wa wl wc) ∧ W0.drew.cell? ⟨(w.heap.size + 1), 10, none⟩ = some (.slice oa ol oc) := by
    subst eW0
    refine ⟨?_, ?_, ?_, ?_, ?_, ?_, ?_, ?_, ?_, ?_, ?_, ?_, ?_⟩
    iterate 2 (show World.cell? ((w.alloc _).alloc _) _ = _; rw [World.cell?_alloc_lt _ _ _ (by simp), cell_of_row _ _ _ _ _ _ (heap_alloc_new _ _)]; rfl)
    all_goals (show World.cell? ((w.alloc _).alloc _) _ = _; rw [cell_of_row _ _ _ _ _ _ (by have := heap_alloc_new (w.alloc (.cells #[.int .i8 last, .int .u16 wo] 55)) (.cells #[.int .i8 k, .string s, .slice da dl dc, .slice aa al ac, .int .i32 ver, .bool eph, .bool seq, .int .i64 ses, .int .i32 tmo, .slice wa wl wc, .slice oa ol oc] 33 (0, 0)); simpa using this)]; rfl)
  have g0 : Below w.heap.size w W0.drew := by subst eW0; exact HL.out _ _
  have HG0 : Hid (Below w.heap.size w W0.drew) := g0
  clear HL eW0 g0
  go_region_held (fun w' => w'.cell? ⟨w.heap.size, 0, none⟩ = some (.int .i8 last) ∧ w'.cell? ⟨w.heap.size, 1, none⟩ = some (.int .u16 wo) ∧ w'.cell? ⟨(w.heap.size + 1), 0, none⟩ = some (.int .i8 k) ∧ w'.cell? ⟨(w.heap.size + 1), 1, none⟩ = some (.string s) ∧ w'.cell? ⟨(w.heap.size + 1), 2, none⟩ = some (.slice da dl dc) ∧ w'.cell? ⟨(w.heap.size + 1), 3, none⟩ = some (.slice aa al ac) ∧ w'.cell? ⟨(w.heap.size + 1), 4, none⟩ = some (.int .i32 ver) ∧ w'.cell? ⟨(w.heap.size + 1), 5, none⟩ = some (.bool eph) ∧ w'.cell? ⟨(w.heap.size + 1), 6, none⟩ = some (.bool seq) ∧ w'.cell? ⟨(w.heap.size + 1), 7, none⟩ = some (.int .i64 ses) ∧ w'.cell? ⟨(w.heap.size + 1), 8, none⟩ = some (.int .i32 tmo) ∧ w'.cell? ⟨(w.heap.size + 1), 9, none⟩ = some (.slice wa wl wc) ∧ w'.cell? ⟨(w.heap.size + 1), 10, none⟩ = some (.slice oa ol oc)) (first | exact k0 | exact k1 | exact k2)
    (first
    | (go_at_call 34; refine (HX.out _ (HN.out _ HG0.out)).mono ?_; rintro r w1 ⟨rfl, g1⟩; have HG1 : Hid (Below w.heap.size w w1) := HG0.out.trans (g1.mono HG0.out.size); have k1 := keep13 g1 k0; clear k0 HG0 g1)
    | (go_at_call 50; refine (HZ.out _).mono ?_; rintro r w2 ⟨rfl, g1⟩; have HG2 : Hid (Below w.heap.size w w2) := HG1.out.trans (g1.mono HG1.out.size); have k2 := keep13 g1 k1; clear k1 HG1 g1))
  clear HX HZ HN
  go_wp2_with fail
  · go_ret
    refine ⟨?_, HG2.out⟩
    have h : x = 0 := by assumption
    rw [h]; rfl
  · refine (needed_any k _).mono ?_
    rintro r w3 ⟨rfl, rfl⟩
    by_cases h3 : bits .andNot .u16 (need k) z = 0
    · go_wp2_with fail
      refine (HB.out _ HG2.out).mono ?_
      rintro r w4 ⟨rfl, g4⟩
      have HG4 : Hid (Below w.heap.size w w4) := HG2.out.trans (g4.mono HG2.out.size)
      clear g4 k2 HG2
      go_wp2
      go_ret
      refine ⟨?_, HG4.out⟩
      have h1 : (x != 0) = true := by simp; assumption
      have h2 : bits .andNot .u16 z x = 0 := by assumption
      rw [h1]
      simp [h2, h3]
    · go_wp2_with fail
      go_ret
      refine ⟨?_, HG2.out⟩
      simp [h3]
  · go_ret
    refine ⟨?_, HG2.out⟩
    have h2 : ¬ bits .andNot .u16 z x = 0 := by assumption
    simp [h2]
end Go.Proofs.YtgaepncccfipeaaDoor

/- What txn.Check answers where the zxid and the origin may be: by mayBe's answer. -/
namespace Go.Proofs.YtgaepncccfipeaaDoor
open Go.RowKit
set_option maxRecDepth 8000

theorem keep16 {W W' : World} {N : Nat} {r0 r1 r2 r3 r4 r5 r6 r7 r8 r9 r10 r11 r12 r13 r14 r15 : Value} (hb : Below W.heap.size W W') (h : W.cell? ⟨N, 0, none⟩ = some r0 ∧ W.cell? ⟨N, 1, none⟩ = some r1 ∧ W.cell? ⟨N, 2, none⟩ = some r2 ∧ W.cell? ⟨N, 3, none⟩ = some r3 ∧ W.cell? ⟨N, 4, none⟩ = some r4 ∧ W.cell? ⟨N, 5, none⟩ = some r5 ∧ W.cell? ⟨N, 6, none⟩ = some r6 ∧ W.cell? ⟨N, 7, none⟩ = some r7 ∧ W.cell? ⟨N, 8, none⟩ = some r8 ∧ W.cell? ⟨N, 9, none⟩ = some r9 ∧ W.cell? ⟨N, 10, none⟩ = some r10 ∧ W.cell? ⟨N, 11, none⟩ = some r11 ∧ W.cell? ⟨N, 12, none⟩ = some r12 ∧ W.cell? ⟨N, 13, none⟩ = some r13 ∧ W.cell? ⟨N, 14, none⟩ = some r14 ∧ W.cell? ⟨N, 15, none⟩ = some r15) :
    W'.cell? ⟨N, 0, none⟩ = some r0 ∧ W'.cell? ⟨N, 1, none⟩ = some r1 ∧ W'.cell? ⟨N, 2, none⟩ = some r2 ∧ W'.cell? ⟨N, 3, none⟩ = some r3 ∧ W'.cell? ⟨N, 4, none⟩ = some r4 ∧ W'.cell? ⟨N, 5, none⟩ = some r5 ∧ W'.cell? ⟨N, 6, none⟩ = some r6 ∧ W'.cell? ⟨N, 7, none⟩ = some r7 ∧ W'.cell? ⟨N, 8, none⟩ = some r8 ∧ W'.cell? ⟨N, 9, none⟩ = some r9 ∧ W'.cell? ⟨N, 10, none⟩ = some r10 ∧ W'.cell? ⟨N, 11, none⟩ = some r11 ∧ W'.cell? ⟨N, 12, none⟩ = some r12 ∧ W'.cell? ⟨N, 13, none⟩ = some r13 ∧ W'.cell? ⟨N, 14, none⟩ = some r14 ∧ W'.cell? ⟨N, 15, none⟩ = some r15 :=
  ⟨cell_later h.1 hb (Nat.le_refl _), cell_later h.2.1 hb (Nat.le_refl _), cell_later h.2.2.1 hb (Nat.le_refl _), cell_later h.2.2.2.1 hb (Nat.le_refl _), cell_later h.2.2.2.2.1 hb (Nat.le_refl _), cell_later h.2.2.2.2.2.1 hb (Nat.le_refl _), cell_later h.2.2.2.2.2.2.1 hb (Nat.le_refl _), cell_later h.2.2.2.2.2.2.2.1 hb (Nat.le_refl _), cell_later h.2.2.2.2.2.2.2.2.1 hb (Nat.le_refl _), cell_later h.2.2.2.2.2.2.2.2.2.1 hb (Nat.le_refl _), cell_later h.2.2.2.2.2.2.2.2.2.2.1 hb (Nat.le_refl _), cell_later h.2.2.2.2.2.2.2.2.2.2.2.1 hb (Nat.le_refl _), cell_later h.2.2.2.2.2.2.2.2.2.2.2.2.1 hb (Nat.le_refl _), cell_later h.2.2.2.2.2.2.2.2.2.2.2.2.2.1 hb (Nat.le_refl _), cell_later h.2.2.2.2.2.2.2.2.2.2.2.2.2.2.1 hb (Nat.le_refl _), cell_later h.2.2.2.2.2.2.2.2.2.2.2.2.2.2.2 hb (Nat.le_refl _)⟩

set_option maxHeartbeats 2000000 in
theorem check_ok (e n sv bt nm k : Int) (s : ByteArray) (da aa wa oa : Option Addr) (dl dc al ac wl wc ol oc : Nat) (ver : Int) (eph seq : Bool) (ses tmo : Int) (q : Bool) (w : World) (h0 : 0 ≤ e) (h2 : 0 ≤ n)
    (hz : zxOk e n = true) (hO : origOk sv nm = true)
    (hb : ∀ W : World, Below w.heap.size w W → Calls Tryd.prog 22 #[lay 8 0, .agg #[.int .i8 k, .string s, .slice da dl dc, .slice aa al ac, .int .i32 ver, .bool eph, .bool seq, .int .i64 ses, .int .i32 tmo, .slice wa wl wc, .slice oa ol oc]] W fun r W' => r = .returned (.bool q) ∧ Below W.heap.size W W') :
    Calls Tryd.prog 8 #[.agg #[.int .u32 e, .int .u32 n, .int .i8 sv, .int .u32 bt, .int .i64 nm, .int .i8 k, .string s, .slice da dl dc, .slice aa al ac, .int .i32 ver, .bool eph, .bool seq, .int .i64 ses, .int .i32 tmo, .slice wa wl wc, .slice oa ol oc]] w fun r w' => r = .returned (.int .i64 (if q then 0 else 40)) ∧ Below w.heap.size w w' := by
  have HZ : Hid (∀ W : World, Calls Tryd.prog 20 #[.agg #[.int .u32 e, .int .u32 n]] W fun r w' => r = .returned (.bool true) ∧ Below W.heap.size W w') := fun W => by
    rw [← hz]; exact isZxid_any e n W h0 h2
  have HO : Hid (∀ W : World, Calls Tryd.prog 21 #[.agg #[.int .i8 sv, .int .u32 bt, .int .i64 nm]] W fun r w' => r = .returned (.bool true) ∧ Below W.heap.size W w') := fun W => by
    rw [← hO]; exact isOrigin_any sv bt nm W
  have HB : Hid _ := hb
  have HL : Hid (∀ o : Obj, Below w.heap.size w (w.alloc o).drew) := fun o => below_drewN (one_alloc w o) 1
  clear hb hz hO
  go_enter Tryd.func8, Tryd.ntmps8
  go_wp2_with fail
  generalize eW0 : (w.alloc (.cells #[.int .u32 e, .int .u32 n, .int .i8 sv, .int .u32 bt, .int .i64 nm, .int .i8 k, .string s, .slice da dl dc, .slice aa al ac, .int .i32 ver, .bool eph, .bool seq, .int .i64 ses, .int .i32 tmo, .slice wa wl wc, .slice oa ol oc] 35)) = W0
  have k0 : W0.drew.cell? ⟨w.heap.size, 0, none⟩ = some (.int .u32 e) ∧ W0.drew.cell? ⟨w.heap.size, 1, none⟩ = some (.int .u32 n) ∧ W0.drew.cell? ⟨w.heap.size, 2, none⟩ = some (.int .i8 sv) ∧ W0.drew.cell? ⟨w.heap.size, 3, none⟩ = some (.int .u32 bt) ∧ W0.drew.cell? ⟨w.heap.size, 4, none⟩ = some (.int .i64 nm) ∧ W0.drew.cell? ⟨w.heap.size, 5, none⟩ = some (.int .i8 k) ∧ W0.drew.cell? ⟨w.heap.size, 6, none⟩ = some (.string s) ∧ W0.drew.cell? ⟨w.heap.size, 7, none⟩ = some (.slice da dl dc) ∧ W0.drew.cell? ⟨w.heap.size, 8, none⟩ = some (.slice aa al ac) ∧ W0.drew.cell? ⟨w.heap.size, 9, none⟩ = some (.int .i32 ver) ∧ W0.drew.cell? ⟨w.heap.size, 10, none⟩ = some (.bool eph) ∧ W0.drew.cell? ⟨w.heap.size, 11, none⟩ = some (.bool seq) ∧ W0.drew.cell? ⟨w.heap.size, 12, none⟩ = some (.int .i64 ses) ∧ W0.drew.cell? ⟨w.heap.size, 13, none⟩ = some (.int .i32 tmo) ∧ W0.drew.cell? ⟨w.heap.size, 14, none⟩ = some (.slice wa wl wc) ∧ W0.drew.cell? ⟨w.heap.size, 15, none⟩ = some (.slice oa ol oc) := by
    subst eW0
    refine ⟨?_, ?_, ?_, ?_, ?_, ?_, ?_, ?_, ?_, ?_, ?_, ?_, ?_, ?_, ?_, ?_⟩ <;> (show World.cell? (w.alloc _) _ = _; rw [cell_of_row _ _ _ _ _ _ (heap_alloc_new _ _)]; rfl)
  have HG0 : Hid (Below w.heap.size w W0.drew) := by subst eW0; exact HL.out _
  clear HL eW0
  go_region_held (fun w' => w'.cell? ⟨w.heap.size, 0, none⟩ = some (.int .u32 e) ∧ w'.cell? ⟨w.heap.size, 1, none⟩ = some (.int .u32 n) ∧ w'.cell? ⟨w.heap.size, 2, none⟩ = some (.int .i8 sv) ∧ w'.cell? ⟨w.heap.size, 3, none⟩ = some (.int .u32 bt) ∧ w'.cell? ⟨w.heap.size, 4, none⟩ = some (.int .i64 nm) ∧ w'.cell? ⟨w.heap.size, 5, none⟩ = some (.int .i8 k) ∧ w'.cell? ⟨w.heap.size, 6, none⟩ = some (.string s) ∧ w'.cell? ⟨w.heap.size, 7, none⟩ = some (.slice da dl dc) ∧ w'.cell? ⟨w.heap.size, 8, none⟩ = some (.slice aa al ac) ∧ w'.cell? ⟨w.heap.size, 9, none⟩ = some (.int .i32 ver) ∧ w'.cell? ⟨w.heap.size, 10, none⟩ = some (.bool eph) ∧ w'.cell? ⟨w.heap.size, 11, none⟩ = some (.bool seq) ∧ w'.cell? ⟨w.heap.size, 12, none⟩ = some (.int .i64 ses) ∧ w'.cell? ⟨w.heap.size, 13, none⟩ = some (.int .i32 tmo) ∧ w'.cell? ⟨w.heap.size, 14, none⟩ = some (.slice wa wl wc) ∧ w'.cell? ⟨w.heap.size, 15, none⟩ = some (.slice oa ol oc)) (first | exact k0 | exact k1 | exact k2 | exact k3 | exact k4)
    (first
    | (go_at_call 20; refine (HZ.out _).mono ?_; rintro r w1 ⟨rfl, g1⟩; have HG1 : Hid (Below w.heap.size w w1) := HG0.out.trans (g1.mono HG0.out.size); have k1 := keep16 g1 k0; clear k0 HG0 g1)
    | (go_at_call 21; refine (HO.out _).mono ?_; rintro r w2 ⟨rfl, g2⟩; have HG2 : Hid (Below w.heap.size w w2) := HG1.out.trans (g2.mono HG1.out.size); have k2 := keep16 g2 k1; clear k1 HG1 g2)
    | (go_at_call 16; refine (proposed_any _).mono ?_; rintro r w3 ⟨rfl, g3⟩; have HG3 : Hid (Below w.heap.size w w3) := HG2.out.trans (g3.mono HG2.out.size); have k3 := keep16 g3 k2; clear k2 HG2 g3)
    | (go_at_call 22; refine (HB.out _ HG3.out).mono ?_; rintro r w4 ⟨rfl, g4⟩; have HG4 : Hid (Below w.heap.size w w4) := HG3.out.trans (g4.mono HG3.out.size); have k4 := keep16 g4 k3; clear k3 HG3 g4))
  cases q
  all_goals (go_wp2; go_ret; exact ⟨rfl, HG4.out⟩)
end Go.Proofs.YtgaepncccfipeaaDoor
