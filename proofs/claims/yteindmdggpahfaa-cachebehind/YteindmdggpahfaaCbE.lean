/- Put of every ring of transactions; At. -/
import Derived.Test.YteindmdggpahfaaCbD
namespace Go.Proofs.Yteindmdggpahfaa
open Go.RowKit
set_option maxRecDepth 8000
set_option linter.unusedSimpArgs false

abbrev wz16 (w : World) (g : Nat) (c0 c1 c2 c3 c4 c5 c6 c7 c8 c9 c10 c11 c12 c13 c14 c15 : Value) : World := ((((((((((((((((w).setCell ⟨g, 0, none⟩ c0).setCell ⟨g, 1, none⟩ c1).setCell ⟨g, 2, none⟩ c2).setCell ⟨g, 3, none⟩ c3).setCell ⟨g, 4, none⟩ c4).setCell ⟨g, 5, none⟩ c5).setCell ⟨g, 6, none⟩ c6).setCell ⟨g, 7, none⟩ c7).setCell ⟨g, 8, none⟩ c8).setCell ⟨g, 9, none⟩ c9).setCell ⟨g, 10, none⟩ c10).setCell ⟨g, 11, none⟩ c11).setCell ⟨g, 12, none⟩ c12).setCell ⟨g, 13, none⟩ c13).setCell ⟨g, 14, none⟩ c14).setCell ⟨g, 15, none⟩ c15

theorem wz16_eq (w : World) (g : Nat) (c0 c1 c2 c3 c4 c5 c6 c7 c8 c9 c10 c11 c12 c13 c14 c15 : Value) : wz16 w g c0 c1 c2 c3 c4 c5 c6 c7 c8 c9 c10 c11 c12 c13 c14 c15 = w16 w g 0 c0 c1 c2 c3 c4 c5 c6 c7 c8 c9 c10 c11 c12 c13 c14 c15 := rfl

theorem row16_all {W : World} {b : Nat} {T : TypeId} {f : Nat → Value} {x : List Value} (hx : x.length = 16) (h : W.rowIs b T 16 (put16 f 0 x)) : W.heap[b]? = some (.cells x.toArray T (0, 0)) := by
  obtain ⟨c, hc, hcs, hci⟩ := h
  have e : c = x.toArray := by
    apply Array.ext_getElem?
    intro i
    by_cases hi : i < 16
    · rw [hci i hi, List.getElem?_toArray]
      unfold put16
      rw [if_pos (by omega), Nat.sub_zero, List.getD_eq_getElem?_getD, List.getElem?_eq_getElem (by omega)]
      rfl
    · rw [Array.getElem?_eq_none (by omega), List.getElem?_toArray, List.getElem?_eq_none (by omega)]
  rw [hc, e]

/-- The cells that At reads. -/
abbrev AtM (p q : Nat) (c0 c1 c2 c3 c4 c5 c6 c7 c8 c9 c10 c11 c12 c13 c14 c15 : Value) (w' : World) : Prop := w'.cell? ⟨p, q * 16, none⟩ = some c0 ∧ w'.cell? ⟨p, q * 16 + 1, none⟩ = some c1 ∧ w'.cell? ⟨p, q * 16 + 2, none⟩ = some c2 ∧ w'.cell? ⟨p, q * 16 + 3, none⟩ = some c3 ∧ w'.cell? ⟨p, q * 16 + 4, none⟩ = some c4 ∧ w'.cell? ⟨p, q * 16 + 5, none⟩ = some c5 ∧ w'.cell? ⟨p, q * 16 + 6, none⟩ = some c6 ∧ w'.cell? ⟨p, q * 16 + 7, none⟩ = some c7 ∧ w'.cell? ⟨p, q * 16 + 8, none⟩ = some c8 ∧ w'.cell? ⟨p, q * 16 + 9, none⟩ = some c9 ∧ w'.cell? ⟨p, q * 16 + 10, none⟩ = some c10 ∧ w'.cell? ⟨p, q * 16 + 11, none⟩ = some c11 ∧ w'.cell? ⟨p, q * 16 + 12, none⟩ = some c12 ∧ w'.cell? ⟨p, q * 16 + 13, none⟩ = some c13 ∧ w'.cell? ⟨p, q * 16 + 14, none⟩ = some c14 ∧ w'.cell? ⟨p, q * 16 + 15, none⟩ = some c15

theorem atM_of {W : World} {p q N : Nat} {T : TypeId} {f : Nat → Value} {c0 c1 c2 c3 c4 c5 c6 c7 c8 c9 c10 c11 c12 c13 c14 c15 : Value} (h : W.rowIs p T N f) (hN : 1027 ≤ N) (hq : q < 64) (hf : ∀ j, j < 16 → f (q * 16 + j) = [c0, c1, c2, c3, c4, c5, c6, c7, c8, c9, c10, c11, c12, c13, c14, c15].getD j (.bool false)) : AtM p q c0 c1 c2 c3 c4 c5 c6 c7 c8 c9 c10 c11 c12 c13 c14 c15 W :=
  ⟨(h.cell (i := q * 16) (by omega)).trans (congrArg some (hf 0 (by omega))), (h.cell (i := q * 16 + 1) (by omega)).trans (congrArg some (hf 1 (by omega))), (h.cell (i := q * 16 + 2) (by omega)).trans (congrArg some (hf 2 (by omega))), (h.cell (i := q * 16 + 3) (by omega)).trans (congrArg some (hf 3 (by omega))), (h.cell (i := q * 16 + 4) (by omega)).trans (congrArg some (hf 4 (by omega))), (h.cell (i := q * 16 + 5) (by omega)).trans (congrArg some (hf 5 (by omega))), (h.cell (i := q * 16 + 6) (by omega)).trans (congrArg some (hf 6 (by omega))), (h.cell (i := q * 16 + 7) (by omega)).trans (congrArg some (hf 7 (by omega))), (h.cell (i := q * 16 + 8) (by omega)).trans (congrArg some (hf 8 (by omega))), (h.cell (i := q * 16 + 9) (by omega)).trans (congrArg some (hf 9 (by omega))), (h.cell (i := q * 16 + 10) (by omega)).trans (congrArg some (hf 10 (by omega))), (h.cell (i := q * 16 + 11) (by omega)).trans (congrArg some (hf 11 (by omega))), (h.cell (i := q * 16 + 12) (by omega)).trans (congrArg some (hf 12 (by omega))), (h.cell (i := q * 16 + 13) (by omega)).trans (congrArg some (hf 13 (by omega))), (h.cell (i := q * 16 + 14) (by omega)).trans (congrArg some (hf 14 (by omega))), (h.cell (i := q * 16 + 15) (by omega)).trans (congrArg some (hf 15 (by omega)))⟩

set_option maxHeartbeats 4000000 in
theorem atZ_yes {T : TypeId} {N : Nat} {w0 : World} {p m : Nat} {xs : List (List Value)} (h0 : IsRz T N w0 p m xs) (i : Nat) (t0 t1 t2 t3 t4 : Int) (x0 : Int) (x1 : ByteArray) (x2 : Option Addr) (x3 x4 : Nat) (x5 : Option Addr) (x6 x7 : Nat) (x8 : Int) (x9 x10 : Bool) (x11 x12 : Int) (x13 : Option Addr) (x14 x15 : Nat) (x16 : Option Addr) (x17 x18 : Nat) (hi : xs[i]? = some [.int .u32 t0, .int .u32 t1, .int .i8 t2, .int .u32 t3, .int .i64 t4, .int .i8 x0, .string x1, .slice x2 x3 x4, .slice x5 x6 x7, .int .i32 x8, .bool x9, .bool x10, .int .i64 x11, .int .i32 x12, .slice x13 x14 x15, .slice x16 x17 x18]) :
    Calls Try.prog 32 #[.pointer (some ⟨p, 0, none⟩), .int .i64 i] w0 fun e w' => e = .returned (.tuple #[.agg #[.int .u32 t0, .int .u32 t1, .int .i8 t2, .int .u32 t3, .int .i64 t4, .int .i8 x0, .string x1, .slice x2 x3 x4, .slice x5 x6 x7, .int .i32 x8, .bool x9, .bool x10, .int .i64 x11, .int .i32 x12, .slice x13 x14 x15, .slice x16 x17 x18], .bool true]) ∧ Below w0.heap.size w0 w' := by
  obtain ⟨w, hw⟩ : ∃ w, w = w0.alloc (.cells #[.int .u32 0, .int .u32 0, .int .i8 0, .int .u32 0, .int .i64 0, .int .i8 0, .string ⟨#[]⟩, .slice none 0 0, .slice none 0 0, .int .i32 0, .bool false, .bool false, .int .i64 0, .int .i32 0, .slice none 0 0, .slice none 0 0] 43) := ⟨_, rfl⟩
  have h : IsRz T N w p m xs := h0.of_block (by rw [hw]; exact Below.heap_alloc _ _ _ h0.lt)
  have hlp := h0.lt
  have hbl : Below w0.heap.size w0 w := by rw [hw]; exact (Below.refl _ _).alloc (Nat.le_refl _) _
  have hbx : w.heap[w0.heap.size]? = some (.cells #[.int .u32 0, .int .u32 0, .int .i8 0, .int .u32 0, .int .i64 0, .int .i8 0, .string ⟨#[]⟩, .slice none 0 0, .slice none 0 0, .int .i32 0, .bool false, .bool false, .int .i64 0, .int .i32 0, .slice none 0 0, .slice none 0 0] 43 (0, 0)) := by rw [hw]; exact heap_alloc_new w0 _
  have hbox : ∃ fb, w.rowIs w0.heap.size 43 16 fb := ⟨fun i => (#[.int .u32 0, .int .u32 0, .int .i8 0, .int .u32 0, .int .i64 0, .int .i8 0, .string ⟨#[]⟩, .slice none 0 0, .slice none 0 0, .int .i32 0, .bool false, .bool false, .int .i64 0, .int .i32 0, .slice none 0 0, .slice none 0 0] : Array Value).getD i (.bool false), _, hbx, rfl, fun i hi => by
    dsimp only
    rw [Array.getD_eq_getD_getElem?, Array.getElem?_eq_getElem (by simpa using hi)]; rfl⟩
  have HB : Hid (Below w0.heap.size w0 w ∧ ∃ fb, w.rowIs w0.heap.size 43 16 fb) := ⟨hbl, hbox⟩
  have hbz := lt_of_block hbx
  have HE : Hid _ := hw
  clear h0 hbl hw hbox hbx
  have HL : Hid (Calls Try.prog 43 #[.pointer (some ⟨p, 0, none⟩)] w fun e w' => e = .returned (.int .i64 xs.length) ∧ w' = w) := lenZ_any h
  obtain ⟨hN, first, f, hr, hf⟩ := h
  have hlt : i < xs.length := (List.getElem?_eq_some_iff.1 hi).1
  have h64 := hf.few
  have h65 := hf.most
  have hfl := hf.first_lt
  have hq : (first + i) % m < m := Nat.mod_lt _ (by omega)
  have HR : Hid (∀ V : World, (∃ n, V = w.drewN n) → Calls Try.prog 28 #[.pointer (some ⟨p, 0, none⟩), .int .i64 i] V fun e w' => e = .returned (.int .i64 ((first + i) % m : Nat)) ∧ ∃ n, w' = V.drewN n) := fun V hV => by
    obtain ⟨n, rfl⟩ := hV
    exact roundZ_any (w := w.drewN n) hN hr hf.cm hf.cf (by omega) (by omega) (by omega) (by omega)
  obtain ⟨q, hqe⟩ : ∃ q, q = (first + i) % m := ⟨_, rfl⟩
  have hq64 : q < 64 := by omega
  have HF : Hid (w.rowIs p T N f ∧ ∀ j, j < 16 → f (q * 16 + j) = ([.int .u32 t0, .int .u32 t1, .int .i8 t2, .int .u32 t3, .int .i64 t4, .int .i8 x0, .string x1, .slice x2 x3 x4, .slice x5 x6 x7, .int .i32 x8, .bool x9, .bool x10, .int .i64 x11, .int .i32 x12, .slice x13 x14 x15, .slice x16 x17 x18] : List Value).getD j (.bool false)) := ⟨hr, by rw [hqe]; exact hf.at' i _ hi⟩
  have hl := hr.lt
  rw [← hqe] at HR
  have hb : ((i : Int) < 0) = False := by simp
  have hq0 : (0 : Int) ≤ (q : Int) := by omega
  have hq1 : (q : Int) < 64 := by omega
  clear hr hf hi hqe hq hfl
  have HX : Hid (Calls Try.prog 28 #[.pointer (some ⟨p, 0, none⟩), .int .i64 i] w.drew fun e w' => e = .returned (.int .i64 q) ∧ AtM p q (.int .u32 t0) (.int .u32 t1) (.int .i8 t2) (.int .u32 t3) (.int .i64 t4) (.int .i8 x0) (.string x1) (.slice x2 x3 x4) (.slice x5 x6 x7) (.int .i32 x8) (.bool x9) (.bool x10) (.int .i64 x11) (.int .i32 x12) (.slice x13 x14 x15) (.slice x16 x17 x18) w' ∧ AtM p q (.int .u32 t0) (.int .u32 t1) (.int .i8 t2) (.int .u32 t3) (.int .i64 t4) (.int .i8 x0) (.string x1) (.slice x2 x3 x4) (.slice x5 x6 x7) (.int .i32 x8) (.bool x9) (.bool x10) (.int .i64 x11) (.int .i32 x12) (.slice x13 x14 x15) (.slice x16 x17 x18) (wz16 w' w0.heap.size (.int .u32 t0) (.int .u32 t1) (.int .i8 t2) (.int .u32 t3) (.int .i64 t4) (.int .i8 x0) (.string x1) (.slice x2 x3 x4) (.slice x5 x6 x7) (.int .i32 x8) (.bool x9) (.bool x10) (.int .i64 x11) (.int .i32 x12) (.slice x13 x14 x15) (.slice x16 x17 x18)) ∧ (∃ u, w'.cell? ⟨w0.heap.size, 0, none⟩ = some u) ∧ w'.frozen? ⟨w0.heap.size, 0, none⟩ = false ∧ (∃ u, w'.cell? ⟨w0.heap.size, 1, none⟩ = some u) ∧ w'.frozen? ⟨w0.heap.size, 1, none⟩ = false ∧ (∃ u, w'.cell? ⟨w0.heap.size, 2, none⟩ = some u) ∧ w'.frozen? ⟨w0.heap.size, 2, none⟩ = false ∧ (∃ u, w'.cell? ⟨w0.heap.size, 3, none⟩ = some u) ∧ w'.frozen? ⟨w0.heap.size, 3, none⟩ = false ∧ (∃ u, w'.cell? ⟨w0.heap.size, 4, none⟩ = some u) ∧ w'.frozen? ⟨w0.heap.size, 4, none⟩ = false ∧ (∃ u, w'.cell? ⟨w0.heap.size, 5, none⟩ = some u) ∧ w'.frozen? ⟨w0.heap.size, 5, none⟩ = false ∧ (∃ u, w'.cell? ⟨w0.heap.size, 6, none⟩ = some u) ∧ w'.frozen? ⟨w0.heap.size, 6, none⟩ = false ∧ (∃ u, w'.cell? ⟨w0.heap.size, 7, none⟩ = some u) ∧ w'.frozen? ⟨w0.heap.size, 7, none⟩ = false ∧ (∃ u, w'.cell? ⟨w0.heap.size, 8, none⟩ = some u) ∧ w'.frozen? ⟨w0.heap.size, 8, none⟩ = false ∧ (∃ u, w'.cell? ⟨w0.heap.size, 9, none⟩ = some u) ∧ w'.frozen? ⟨w0.heap.size, 9, none⟩ = false ∧ (∃ u, w'.cell? ⟨w0.heap.size, 10, none⟩ = some u) ∧ w'.frozen? ⟨w0.heap.size, 10, none⟩ = false ∧ (∃ u, w'.cell? ⟨w0.heap.size, 11, none⟩ = some u) ∧ w'.frozen? ⟨w0.heap.size, 11, none⟩ = false ∧ (∃ u, w'.cell? ⟨w0.heap.size, 12, none⟩ = some u) ∧ w'.frozen? ⟨w0.heap.size, 12, none⟩ = false ∧ (∃ u, w'.cell? ⟨w0.heap.size, 13, none⟩ = some u) ∧ w'.frozen? ⟨w0.heap.size, 13, none⟩ = false ∧ (∃ u, w'.cell? ⟨w0.heap.size, 14, none⟩ = some u) ∧ w'.frozen? ⟨w0.heap.size, 14, none⟩ = false ∧ (∃ u, w'.cell? ⟨w0.heap.size, 15, none⟩ = some u) ∧ w'.frozen? ⟨w0.heap.size, 15, none⟩ = false ∧ w0.heap.size < w'.heap.size ∧ p < w'.heap.size ∧ (wz16 w' w0.heap.size (.int .u32 t0) (.int .u32 t1) (.int .i8 t2) (.int .u32 t3) (.int .i64 t4) (.int .i8 x0) (.string x1) (.slice x2 x3 x4) (.slice x5 x6 x7) (.int .i32 x8) (.bool x9) (.bool x10) (.int .i64 x11) (.int .i32 x12) (.slice x13 x14 x15) (.slice x16 x17 x18)).heap[w0.heap.size]? = some (.cells #[.int .u32 t0, .int .u32 t1, .int .i8 t2, .int .u32 t3, .int .i64 t4, .int .i8 x0, .string x1, .slice x2 x3 x4, .slice x5 x6 x7, .int .i32 x8, .bool x9, .bool x10, .int .i64 x11, .int .i32 x12, .slice x13 x14 x15, .slice x16 x17 x18] 43 (0, 0)) ∧ Hid (Below w0.heap.size w0 (wz16 w' w0.heap.size (.int .u32 t0) (.int .u32 t1) (.int .i8 t2) (.int .u32 t3) (.int .i64 t4) (.int .i8 x0) (.string x1) (.slice x2 x3 x4) (.slice x5 x6 x7) (.int .i32 x8) (.bool x9) (.bool x10) (.int .i64 x11) (.int .i32 x12) (.slice x13 x14 x15) (.slice x16 x17 x18)))) := by
    refine Calls.mono (HR.out w.drew ⟨1, rfl⟩) ?_
    rintro e w3 ⟨rfl, n3, rfl⟩
    obtain ⟨hb0, fb, hbox⟩ := HB.out
    have hrb : (w.drew.drewN n3).rowIs w0.heap.size 43 16 fb := hbox
    have hrw : (w.drew.drewN n3).rowIs p T N f := HF.out.1
    have hset := row16 (o := 0) hrb (.int .u32 t0) (.int .u32 t1) (.int .i8 t2) (.int .u32 t3) (.int .i64 t4) (.int .i8 x0) (.string x1) (.slice x2 x3 x4) (.slice x5 x6 x7) (.int .i32 x8) (.bool x9) (.bool x10) (.int .i64 x11) (.int .i32 x12) (.slice x13 x14 x15) (.slice x16 x17 x18)
    have hk := kept16 (w.drew.drewN n3) w0.heap.size 0 (.int .u32 t0) (.int .u32 t1) (.int .i8 t2) (.int .u32 t3) (.int .i64 t4) (.int .i8 x0) (.string x1) (.slice x2 x3 x4) (.slice x5 x6 x7) (.int .i32 x8) (.bool x9) (.bool x10) (.int .i64 x11) (.int .i32 x12) (.slice x13 x14 x15) (.slice x16 x17 x18)
    have hr4 := hrw.of_block (hk.block p hrw.lt (fun e => by omega))
    have hb3 : Below w0.heap.size w0 (w.drew.drewN n3) := below_drewN (below_drewN hb0 1) n3
    refine ⟨rfl, atM_of hrw hN hq64 HF.out.2, atM_of hr4 hN hq64 HF.out.2, ⟨_, hrb.cell (by omega)⟩, hrb.frozen _, ⟨_, hrb.cell (by omega)⟩, hrb.frozen _, ⟨_, hrb.cell (by omega)⟩, hrb.frozen _, ⟨_, hrb.cell (by omega)⟩, hrb.frozen _, ⟨_, hrb.cell (by omega)⟩, hrb.frozen _, ⟨_, hrb.cell (by omega)⟩, hrb.frozen _, ⟨_, hrb.cell (by omega)⟩, hrb.frozen _, ⟨_, hrb.cell (by omega)⟩, hrb.frozen _, ⟨_, hrb.cell (by omega)⟩, hrb.frozen _, ⟨_, hrb.cell (by omega)⟩, hrb.frozen _, ⟨_, hrb.cell (by omega)⟩, hrb.frozen _, ⟨_, hrb.cell (by omega)⟩, hrb.frozen _, ⟨_, hrb.cell (by omega)⟩, hrb.frozen _, ⟨_, hrb.cell (by omega)⟩, hrb.frozen _, ⟨_, hrb.cell (by omega)⟩, hrb.frozen _, ⟨_, hrb.cell (by omega)⟩, hrb.frozen _, hrb.lt, hrw.lt, row16_all rfl hset, ?_⟩
    have hs := hb3.size
    exact ⟨hk.os.trans hb3.os, hk.tape.trans hb3.tape, hk.output.trans hb3.output, Nat.le_trans hs hk.size, fun k h9 => (hk.block k (by omega) (fun e => by omega)).trans (hb3.block k h9)⟩
  have k0 : AtM p q (.int .u32 t0) (.int .u32 t1) (.int .i8 t2) (.int .u32 t3) (.int .i64 t4) (.int .i8 x0) (.string x1) (.slice x2 x3 x4) (.slice x5 x6 x7) (.int .i32 x8) (.bool x9) (.bool x10) (.int .i64 x11) (.int .i32 x12) (.slice x13 x14 x15) (.slice x16 x17 x18) w.drew := atM_of HF.out.1 hN hq64 HF.out.2
  clear HR HF HB
  go_enter Try.func32, Try.ntmps32
  go_upto_region 1 with fail
  rw [← HE.out]
  clear HE
  go_wp2_with (go_at_call 43; refine (HL.out).mono ?_; rintro e w' ⟨rfl, rfl⟩)
  go_region_held (fun w' => w'.cell? ⟨p, q * 16, none⟩ = some (.int .u32 t0) ∧ w'.cell? ⟨p, q * 16 + 1, none⟩ = some (.int .u32 t1) ∧ w'.cell? ⟨p, q * 16 + 2, none⟩ = some (.int .i8 t2) ∧ w'.cell? ⟨p, q * 16 + 3, none⟩ = some (.int .u32 t3) ∧ w'.cell? ⟨p, q * 16 + 4, none⟩ = some (.int .i64 t4) ∧ w'.cell? ⟨p, q * 16 + 5, none⟩ = some (.int .i8 x0) ∧ w'.cell? ⟨p, q * 16 + 6, none⟩ = some (.string x1) ∧ w'.cell? ⟨p, q * 16 + 7, none⟩ = some (.slice x2 x3 x4) ∧ w'.cell? ⟨p, q * 16 + 8, none⟩ = some (.slice x5 x6 x7) ∧ w'.cell? ⟨p, q * 16 + 9, none⟩ = some (.int .i32 x8) ∧ w'.cell? ⟨p, q * 16 + 10, none⟩ = some (.bool x9) ∧ w'.cell? ⟨p, q * 16 + 11, none⟩ = some (.bool x10) ∧ w'.cell? ⟨p, q * 16 + 12, none⟩ = some (.int .i64 x11) ∧ w'.cell? ⟨p, q * 16 + 13, none⟩ = some (.int .i32 x12) ∧ w'.cell? ⟨p, q * 16 + 14, none⟩ = some (.slice x13 x14 x15) ∧ w'.cell? ⟨p, q * 16 + 15, none⟩ = some (.slice x16 x17 x18)) (first | (with_reducible exact k2) | (with_reducible exact k1) | (with_reducible exact k0)) (first | (go_at_call 28; refine Calls.mono HX.out ?_; rintro e w3 ⟨rfl, k1, k2, ⟨qq0, hu0⟩, fz0, ⟨qq1, hu1⟩, fz1, ⟨qq2, hu2⟩, fz2, ⟨qq3, hu3⟩, fz3, ⟨qq4, hu4⟩, fz4, ⟨qq5, hu5⟩, fz5, ⟨qq6, hu6⟩, fz6, ⟨qq7, hu7⟩, fz7, ⟨qq8, hu8⟩, fz8, ⟨qq9, hu9⟩, fz9, ⟨qq10, hu10⟩, fz10, ⟨qq11, hu11⟩, fz11, ⟨qq12, hu12⟩, fz12, ⟨qq13, hu13⟩, fz13, ⟨qq14, hu14⟩, fz14, ⟨qq15, hu15⟩, fz15, lb, lp, r0, H3⟩))
  have l4 : w0.heap.size < (((((((((((((((((w3).setCell ⟨w0.heap.size, 0, none⟩ (.int .u32 t0)).setCell ⟨w0.heap.size, 1, none⟩ (.int .u32 t1)).setCell ⟨w0.heap.size, 2, none⟩ (.int .i8 t2)).setCell ⟨w0.heap.size, 3, none⟩ (.int .u32 t3)).setCell ⟨w0.heap.size, 4, none⟩ (.int .i64 t4)).setCell ⟨w0.heap.size, 5, none⟩ (.int .i8 x0)).setCell ⟨w0.heap.size, 6, none⟩ (.string x1)).setCell ⟨w0.heap.size, 7, none⟩ (.slice x2 x3 x4)).setCell ⟨w0.heap.size, 8, none⟩ (.slice x5 x6 x7)).setCell ⟨w0.heap.size, 9, none⟩ (.int .i32 x8)).setCell ⟨w0.heap.size, 10, none⟩ (.bool x9)).setCell ⟨w0.heap.size, 11, none⟩ (.bool x10)).setCell ⟨w0.heap.size, 12, none⟩ (.int .i64 x11)).setCell ⟨w0.heap.size, 13, none⟩ (.int .i32 x12)).setCell ⟨w0.heap.size, 14, none⟩ (.slice x13 x14 x15)).setCell ⟨w0.heap.size, 15, none⟩ (.slice x16 x17 x18)).heap.size := Nat.lt_of_lt_of_le lb (kept16 w3 w0.heap.size 0 (.int .u32 t0) (.int .u32 t1) (.int .i8 t2) (.int .u32 t3) (.int .i64 t4) (.int .i8 x0) (.string x1) (.slice x2 x3 x4) (.slice x5 x6 x7) (.int .i32 x8) (.bool x9) (.bool x10) (.int .i64 x11) (.int .i32 x12) (.slice x13 x14 x15) (.slice x16 x17 x18)).size
  have HZ : Hid (Below w0.heap.size w0 (((((((((((((((((w3).setCell ⟨w0.heap.size, 0, none⟩ (.int .u32 t0)).setCell ⟨w0.heap.size, 1, none⟩ (.int .u32 t1)).setCell ⟨w0.heap.size, 2, none⟩ (.int .i8 t2)).setCell ⟨w0.heap.size, 3, none⟩ (.int .u32 t3)).setCell ⟨w0.heap.size, 4, none⟩ (.int .i64 t4)).setCell ⟨w0.heap.size, 5, none⟩ (.int .i8 x0)).setCell ⟨w0.heap.size, 6, none⟩ (.string x1)).setCell ⟨w0.heap.size, 7, none⟩ (.slice x2 x3 x4)).setCell ⟨w0.heap.size, 8, none⟩ (.slice x5 x6 x7)).setCell ⟨w0.heap.size, 9, none⟩ (.int .i32 x8)).setCell ⟨w0.heap.size, 10, none⟩ (.bool x9)).setCell ⟨w0.heap.size, 11, none⟩ (.bool x10)).setCell ⟨w0.heap.size, 12, none⟩ (.int .i64 x11)).setCell ⟨w0.heap.size, 13, none⟩ (.int .i32 x12)).setCell ⟨w0.heap.size, 14, none⟩ (.slice x13 x14 x15)).setCell ⟨w0.heap.size, 15, none⟩ (.slice x16 x17 x18))) := H3.out
  have s0 : (((((((((((((((((w3).setCell ⟨w0.heap.size, 0, none⟩ (.int .u32 t0)).setCell ⟨w0.heap.size, 1, none⟩ (.int .u32 t1)).setCell ⟨w0.heap.size, 2, none⟩ (.int .i8 t2)).setCell ⟨w0.heap.size, 3, none⟩ (.int .u32 t3)).setCell ⟨w0.heap.size, 4, none⟩ (.int .i64 t4)).setCell ⟨w0.heap.size, 5, none⟩ (.int .i8 x0)).setCell ⟨w0.heap.size, 6, none⟩ (.string x1)).setCell ⟨w0.heap.size, 7, none⟩ (.slice x2 x3 x4)).setCell ⟨w0.heap.size, 8, none⟩ (.slice x5 x6 x7)).setCell ⟨w0.heap.size, 9, none⟩ (.int .i32 x8)).setCell ⟨w0.heap.size, 10, none⟩ (.bool x9)).setCell ⟨w0.heap.size, 11, none⟩ (.bool x10)).setCell ⟨w0.heap.size, 12, none⟩ (.int .i64 x11)).setCell ⟨w0.heap.size, 13, none⟩ (.int .i32 x12)).setCell ⟨w0.heap.size, 14, none⟩ (.slice x13 x14 x15)).setCell ⟨w0.heap.size, 15, none⟩ (.slice x16 x17 x18)).heap[w0.heap.size]? = some (.cells #[.int .u32 t0, .int .u32 t1, .int .i8 t2, .int .u32 t3, .int .i64 t4, .int .i8 x0, .string x1, .slice x2 x3 x4, .slice x5 x6 x7, .int .i32 x8, .bool x9, .bool x10, .int .i64 x11, .int .i32 x12, .slice x13 x14 x15, .slice x16 x17 x18] 43 (0, 0)) := r0
  clear HX k0 k1 k2 H3 hu0 fz0 hu1 fz1 hu2 fz2 hu3 fz3 hu4 fz4 hu5 fz5 hu6 fz6 hu7 fz7 hu8 fz8 hu9 fz9 hu10 fz10 hu11 fz11 hu12 fz12 hu13 fz13 hu14 fz14 hu15 fz15 r0
  obtain ⟨w4, hw4⟩ : ∃ w4, w4 = ((((((((((((((((w3).setCell ⟨w0.heap.size, 0, none⟩ (.int .u32 t0)).setCell ⟨w0.heap.size, 1, none⟩ (.int .u32 t1)).setCell ⟨w0.heap.size, 2, none⟩ (.int .i8 t2)).setCell ⟨w0.heap.size, 3, none⟩ (.int .u32 t3)).setCell ⟨w0.heap.size, 4, none⟩ (.int .i64 t4)).setCell ⟨w0.heap.size, 5, none⟩ (.int .i8 x0)).setCell ⟨w0.heap.size, 6, none⟩ (.string x1)).setCell ⟨w0.heap.size, 7, none⟩ (.slice x2 x3 x4)).setCell ⟨w0.heap.size, 8, none⟩ (.slice x5 x6 x7)).setCell ⟨w0.heap.size, 9, none⟩ (.int .i32 x8)).setCell ⟨w0.heap.size, 10, none⟩ (.bool x9)).setCell ⟨w0.heap.size, 11, none⟩ (.bool x10)).setCell ⟨w0.heap.size, 12, none⟩ (.int .i64 x11)).setCell ⟨w0.heap.size, 13, none⟩ (.int .i32 x12)).setCell ⟨w0.heap.size, 14, none⟩ (.slice x13 x14 x15)).setCell ⟨w0.heap.size, 15, none⟩ (.slice x16 x17 x18) := ⟨_, rfl⟩
  rw [← hw4] at l4 HZ s0 ⊢
  clear hw4
  have HS : Hid _ := s0
  clear s0
  go_wp2
  refine bodyPost_ret (v := .tuple #[.agg #[.int .u32 t0, .int .u32 t1, .int .i8 t2, .int .u32 t3, .int .i64 t4, .int .i8 x0, .string x1, .slice x2 x3 x4, .slice x5 x6 x7, .int .i32 x8, .bool x9, .bool x10, .int .i64 x11, .int .i32 x12, .slice x13 x14 x15, .slice x16 x17 x18], .bool true]) ?_ rfl ⟨rfl, HZ.out⟩
  have hres : Try.f32.results = #[.cell 4 43, .tmp 5] := by kernel_rfl
  have q2 : (Try.prog.info? 43).map (·.size) = some 16 := by kernel_rfl
  have l2 := run_loadVar_row (P := Try.prog) _ _ _ 43 _ _ _ HS.out Try.underlying43 rfl q2
  simp only [results, hres]
  simp [Sem.run_bind, Result.andThen, asAddr, l2]
end Go.Proofs.Yteindmdggpahfaa
