/- What get of package txn reads of a Delete without ids. -/
import Derived.Test.YtoeialngbbfoeaaGreatDoorWkChkJ
import Derived.Test.YtoeialngbbfoeaaGreatDoorWfMJ
import Derived.Test.YtoeialngbbfoeaaGreatDoorWrTJ
namespace Go.Proofs.YtoeialngbbfoeaaGreatDoor
open Go.RowKit
set_option maxRecDepth 8000

set_option maxHeartbeats 400000 in
theorem getListI_zero (fv : Value) (g : Nat) (v : Value) (xs : List Int) (most : Int) (w : World) (h : IsR w g v xs 0) (hb : Byts xs) (hl : 4 ≤ xs.length) (ha : ahead xs = 0) (hm : 0 ≤ most) :
    Calls Tryz.prog 131 #[.pointer (some ⟨g, 0, none⟩), .int .i64 most, fv] w fun e w' => e = .returned (.slice none 0 0) ∧ ReadsTo w g v ⟨0, xs.drop 4, 0⟩ w' := by
  have H : Hid (IsR w g v xs 0 ∧ Byts xs ∧ ahead xs = 0) := ⟨h, hb, ha⟩
  clear h hb ha
  go_enter Tryz.func131, Tryz.ntmps131
  go_wp2_with fail
  refine (rSize_ok g v xs most _ H.out.1 H.out.2.1 (by omega) (by rw [H.out.2.2]; omega) (by rw [H.out.2.2]; omega) (by rw [H.out.2.2]; omega)).mono ?_
  rintro e w1 ⟨rfl, rfl⟩
  rw [H.out.2.2]
  go_wp2_with fail
  refine (rSkip_ok g v xs 4 0 _ H.out.1 hl).mono ?_
  rintro e w2 ⟨rfl, hw2⟩
  have HR : Hid (ReadsTo w1 g v ⟨0, xs.drop 4, 0⟩ w2) := by rw [hw2]; exact ReadsTo.skip (n := 4) H.out.1 hl
  clear hw2
  go_wp2
  go_loopw [9, 10] (fun l i wr => l = .slice none 0 0 ∧ i = .int .i64 0 ∧ ReadsTo w1 g v ⟨0, xs.drop 4, 0⟩ wr) (fun _ _ _ => 0)
  case atStart => exact ⟨rfl, rfl, HR.out⟩
  case round =>
    obtain ⟨rfl, rfl, hr⟩ := hrel
    have HR2 : Hid (ReadsTo w1 g v ⟨0, xs.drop 4, 0⟩ wr) := hr
    clear hr HR
    go_wp2_with fail
    obtain ⟨v', hv', _⟩ := HR2.out
    refine (rReads_any g v' _ 0 _ hv').mono ?_
    rintro e w3 ⟨rfl, rfl⟩
    clear hv'
    go_wp2
    go_ret
    exact ⟨rfl, HR2.out⟩

abbrev rq0 (k : Int) (s : ByteArray) (ver ses : Int) : Array Value := #[.int .i8 k, .string s, .slice none 0 0, .slice none 0 0, .int .i32 ver, .bool false, .bool false, .int .i64 ses, .int .i32 0, .slice none 0 0, .slice none 0 0]

/-- What stands while a request is read: the Reader at g, the request at z, the layout and the result's variable. -/
structure GD (w W : World) (g : Nat) (v : Value) (xs : List Int) (z : Nat) (cs : Array Value) : Prop where
  r : IsR W g v xs 0
  q : W.heap[z]? = some (.cells cs 33 (0, 0))
  l : W.heap[w.heap.size]? = some (.cells #[.int .i8 8, .int .u16 0] 114 (0, 0))
  o : W.heap[w.heap.size + 1]? = some (.cells (rq0 0 ⟨#[]⟩ 0 0) 33 (0, 0))
  nam : Nam W
  ng : 0 < g
  zlt : w.heap.size + 1 < z
  glt : g < w.heap.size
  vlt : ∀ k, v.ownBlock = some k → k < w.heap.size
  kept : Kept w W (· = g)

theorem Nam.kept {w w' : World} {S : Nat → Prop} (h : Nam w) (hk : Kept w w' S) (hn : ∀ k, k ≤ 0 → ¬ S k) : Nam w' :=
  h.below (B := 0 + 1) ⟨hk.os, hk.tape, hk.output, hk.size, fun k hk' => hk.block k (by have := h.lt; omega) (hn k (by omega))⟩ (by omega)

theorem GD.read {w W W' : World} {g : Nat} {v : Value} {xs ys : List Int} {z : Nat} {cs : Array Value} {n : Int} (h : GD w W g v xs z cs) (hr : ReadsTo W g v ⟨n, ys, 0⟩ W') : ∃ v', GD w W' g v' ys z cs := by
  obtain ⟨v', h1, h2, h3⟩ := hr
  have hz := h.zlt
  have hg := h.glt
  exact ⟨v', h1, h3.heap h.q (by omega), h3.heap h.l (by omega), h3.heap h.o (by omega), h.nam.kept h3 (fun k hk e => by have := h.ng; omega), h.ng, h.zlt, h.glt, fun k hk => h.vlt k (h2 k hk), h.kept.trans h3 (fun _ _ h => h)⟩

theorem GD.later {w W W' : World} {g : Nat} {v : Value} {xs : List Int} {z : Nat} {cs : Array Value} (h : GD w W g v xs z cs) (hb : Below W.heap.size W W') : GD w W' g v xs z cs := by
  have hk := Below.kept hb
  have hs := h.kept.size
  have hg := h.glt
  have hz := lt_of_block h.q
  have hl := lt_of_block h.l
  have ho := lt_of_block h.o
  exact ⟨h.r.kept hk (by omega) (fun k hk' => by have := h.vlt k hk'; omega), hk.heap h.q (by omega), hk.heap h.l (by omega), hk.heap h.o (by omega), h.nam.below hb h.nam.lt, h.ng, h.zlt, h.glt, h.vlt, h.kept.trans hk (fun k hk' e => by omega)⟩

theorem GD.set {w W : World} {g : Nat} {v : Value} {xs : List Int} {z : Nat} {cs : Array Value} (h : GD w W g v xs z cs) (j : Nat) (u : Value) : GD w (W.setCell ⟨z, j, none⟩ u) g v xs z (cs.setIfInBounds j u) := by
  have hz := h.zlt
  have hg := h.glt
  have hk : Kept W (W.setCell ⟨z, j, none⟩ u) (fun k => k = z) := (Kept.refl W (fun k => k = z)).setCell _ _ (fun _ => rfl)
  refine ⟨h.r.kept hk (by omega) (fun k hk' => by have := h.vlt k hk'; omega), ?_, hk.heap h.l (by omega), hk.heap h.o (by omega), h.nam.kept hk (fun k hk' e => by have := h.ng; omega), h.ng, h.zlt, h.glt, h.vlt, h.kept.trans hk (fun k hk' e => by omega)⟩
  rw [heap_setCell_same W z j _ _ _ h.q]

theorem GD.cell {w W : World} {g : Nat} {v : Value} {xs : List Int} {z : Nat} {cs : Array Value} (h : GD w W g v xs z cs) (j : Nat) : W.cell? ⟨z, j, none⟩ = cs[j]? := by
  rw [cell_of_row W z j _ _ _ h.q]
theorem GD.fr {w W : World} {g : Nat} {v : Value} {xs : List Int} {z : Nat} {cs : Array Value} (h : GD w W g v xs z cs) (j : Nat) : W.frozen? ⟨z, j, none⟩ = false := frozen_of_row W z j _ _ h.q
theorem GD.l0 {w W : World} {g : Nat} {v : Value} {xs : List Int} {z : Nat} {cs : Array Value} (h : GD w W g v xs z cs) : W.cell? ⟨w.heap.size, 0, none⟩ = some (.int .i8 8) ∧ W.cell? ⟨w.heap.size, 1, none⟩ = some (.int .u16 0) := by
  constructor <;> (rw [cell_of_row W _ _ _ _ _ h.l]; rfl)

/-- The bytes of works' request. -/
def wkB : List Int := [2, 0, 0, 0, 2, 47, 97, 255, 255, 255, 255, 0, 0, 0, 0, 0, 0, 0, 0, 0, 0, 0, 0]
def pathA : ByteArray := ⟨#[47, 97]⟩

theorem wk1 : rdNum 1 wkB 0 = ⟨2, wkB.drop 1, 0⟩ := by simp [rdNum, num, wkB]
theorem wk2 : rdBuf 64 (wkB.drop 1) 0 = ([47, 97], ⟨0, wkB.drop 7, 0⟩) := by simp [rdBuf, ahead, wrap32, num, wkB]
theorem wk3 : rdNum 4 (wkB.drop 7) 0 = ⟨4294967295, wkB.drop 11, 0⟩ := by simp [rdNum, num, wkB]
theorem wk4 : rdNum 8 (wkB.drop 11) 0 = ⟨0, wkB.drop 19, 0⟩ := by simp [rdNum, num, wkB]
theorem wk5 : ahead (wkB.drop 19) = 0 := by simp [ahead, wrap32, num, wkB]
theorem nms_del' : nms 8 0 2 = 329 := by decide
theorem wk0 : IntKind.i8.wrap 2 = 2 := by decide
theorem wk6 : down32 4294967295 = -1 := by rw [down32_is _ (by omega) (by omega)]; simp
theorem wk7 : wrap64 0 = 0 := by unfold wrap64; omega
theorem wkByts (k : Nat) : Byts (wkB.drop k) := Byts.drop (fun x hx => by have : wkB.all (fun x => decide (0 ≤ x ∧ x ≤ 255)) = true := by decide
                                                                          have := List.all_eq_true.1 this x hx
                                                                          simpa using this) k
theorem wkS : strOfNums [47, 97] = pathA := by decide

set_option maxHeartbeats 2000000 in
theorem get_works (g : Nat) (v : Value) (w : World) (h : IsR w g v wkB 0) (hn : Nam w) (hg : 0 < g) :
    Calls Tryz.prog 63 #[lay 8 0, .pointer (some ⟨g, 0, none⟩)] w fun e w' => e = .returned (.agg (rq0 2 pathA (-1) 0)) ∧ (∃ v', IsR w' g v' [] 0) ∧ Kept w w' (· = g) := by
  have a1 : bits .and .u16 329 1 = 1 := by decide
  have a2 : bits .and .u16 329 2 = 0 := by decide
  have a3 : bits .and .u16 329 4 = 0 := by decide
  have a4 : bits .and .u16 329 8 = 8 := by decide
  have a5 : bits .and .u16 329 16 = 0 := by decide
  have a6 : bits .and .u16 329 32 = 0 := by decide
  have a7 : bits .and .u16 329 64 = 64 := by decide
  have a8 : bits .and .u16 329 128 = 0 := by decide
  have a9 : bits .and .u16 329 256 = 256 := by decide
  have a10 : bits .and .u16 329 512 = 0 := by decide
  have HL : Hid (IsR w g v wkB 0 ∧ Nam w ∧ 0 < g) := ⟨h, hn, hg⟩
  clear h hn hg
  go_enter Tryz.func63, Tryz.ntmps63
  go_wp2_with fail
  have HR0 : Hid (IsR ((w.alloc (.cells #[.int .i8 8, .int .u16 0] 114)).alloc (.cells (rq0 0 ⟨#[]⟩ 0 0) 33)) g v wkB 0) := HL.out.1.kept (((Kept.refl w (fun _ => False)).alloc _).alloc _) (fun h => h) (fun _ _ h => h)
  have hgl : g < w.heap.size := lt_of_block HL.out.1.1
  refine (rInt8_any g v wkB 0 _ HR0.out (wkByts 0)).mono ?_
  rintro e w1 ⟨rfl, hr⟩
  rw [wk1] at hr ⊢
  simp only [wk0]
  obtain ⟨v1, hr1, hr2, hr3⟩ := hr
  have hvl : ∀ k, v.ownBlock = some k → k < w.heap.size := HL.out.1.2.lt (by simp [wkB])
  have HG1 : Hid (GD w (w1.alloc (.cells (rq0 2 ⟨#[]⟩ 0 0) 33)) g v1 (wkB.drop 1) w1.heap.size (rq0 2 ⟨#[]⟩ 0 0)) := by
    have hs := hr3.size
    simp at hs
    have hl1 : w1.heap[w.heap.size]? = some (.cells #[.int .i8 8, .int .u16 0] 114 (0, 0)) := hr3.heap (by rw [Below.heap_alloc _ _ _ (by simp)]; exact heap_alloc_new _ _) (by omega)
    have ho1 : w1.heap[w.heap.size + 1]? = some (.cells (rq0 0 ⟨#[]⟩ 0 0) 33 (0, 0)) := hr3.heap (by have := heap_alloc_new (w.alloc (.cells #[.int .i8 8, .int .u16 0] 114)) (.cells (rq0 0 ⟨#[]⟩ 0 0) 33 (0, 0)); simpa using this) (by omega)
    have hkw : Kept w w1 (· = g) := (((Kept.refl w (· = g)).alloc _).alloc _).trans hr3 (fun _ _ h => h)
    have hka := (Kept.refl w1 (fun _ => False)).alloc (.cells (rq0 2 ⟨#[]⟩ 0 0) 33)
    exact ⟨hr1.kept hka (fun h => h) (fun _ _ h => h), heap_alloc_new _ _, hka.heap hl1 (fun h => h), hka.heap ho1 (fun h => h), (HL.out.2.1.kept hkw (fun k hk e => by have := HL.out.2.2; omega)).kept hka (fun _ _ h => h), HL.out.2.2, by omega, hgl, fun k hk => hvl k (hr2 k hk), hkw.alloc _⟩
  clear hr1 hr2 hr3 HR0 hgl hvl
  obtain ⟨l0, l1⟩ := HG1.out.l0
  have c0 := HG1.out.cell 0
  simp at c0 l0 l1
  go_wp2_with fail
  refine (names_any 8 0 2 _ HG1.out.nam (by omega)).mono ?_
  rintro e w2 ⟨rfl, b2⟩
  rw [nms_del']
  have HG2 : Hid (GD w w2 g v1 (wkB.drop 1) w1.heap.size (rq0 2 ⟨#[]⟩ 0 0)) := HG1.out.later b2
  clear b2 HG1 l0 l1 c0
  go_wp2_with fail
  refine (rText_any g v1 _ 0 _ 64 HG2.out.r (wkByts 1)).mono ?_
  rintro e w3 ⟨rfl, hr⟩
  rw [wk2] at hr ⊢
  simp only [wkS]
  obtain ⟨v3, hg3⟩ := HG2.out.read hr
  have HG3 : Hid (GD w w3 g v3 (wkB.drop 7) w1.heap.size (rq0 2 ⟨#[]⟩ 0 0)) := hg3
  have f1 := hg3.fr 1
  have c1 := hg3.cell 1
  simp at c1
  clear hr hg3 HG2
  go_wp2_with fail
  have HG4 : Hid (GD w (w3.setCell ⟨w1.heap.size, 1, none⟩ (.string pathA)) g v3 (wkB.drop 7) w1.heap.size (rq0 2 pathA 0 0)) := HG3.out.set 1 (.string pathA)
  clear f1 c1 HG3
  refine (rInt32_any g v3 _ 0 _ HG4.out.r (wkByts 7)).mono ?_
  rintro e w4 ⟨rfl, hr⟩
  rw [wk3] at hr ⊢
  simp only [wk6]
  obtain ⟨v4, hg4⟩ := HG4.out.read hr
  have HG5 : Hid (GD w w4 g v4 (wkB.drop 11) w1.heap.size (rq0 2 pathA 0 0)) := hg4
  have f4 := hg4.fr 4
  have c4 := hg4.cell 4
  simp at c4
  clear hr hg4 HG4
  go_wp2_with fail
  have HG6 : Hid (GD w (w4.setCell ⟨w1.heap.size, 4, none⟩ (.int .i32 (-1))) g v4 (wkB.drop 11) w1.heap.size (rq0 2 pathA (-1) 0)) := HG5.out.set 4 (.int .i32 (-1))
  clear f4 c4 HG5
  refine (rInt64_any g v4 _ 0 _ HG6.out.r (wkByts 11)).mono ?_
  rintro e w5 ⟨rfl, hr⟩
  rw [wk4] at hr ⊢
  simp only [wk7]
  obtain ⟨v5, hg5⟩ := HG6.out.read hr
  have HG7 : Hid (GD w w5 g v5 (wkB.drop 19) w1.heap.size (rq0 2 pathA (-1) 0)) := hg5
  have f7 := hg5.fr 7
  have c7 := hg5.cell 7
  have HG8 : Hid (GD w (w5.setCell ⟨w1.heap.size, 7, none⟩ (.int .i64 0)) g v5 (wkB.drop 19) w1.heap.size (rq0 2 pathA (-1) 0)) := hg5.set 7 (.int .i64 0)
  obtain ⟨l0, l1⟩ := HG8.out.l0
  simp at c7
  clear hr hg5 HG6 HG7
  go_wp2_with fail
  clear c7 f7
  refine (getListI_zero _ g v5 _ 4 _ HG8.out.r (wkByts 19) (by simp [wkB]) wk5 (by omega)).mono ?_
  rintro e w6 ⟨rfl, hr⟩
  obtain ⟨v6, hg6⟩ := HG8.out.read hr
  have f9 := hg6.fr 9
  have c0 : w6.cell? ⟨w1.heap.size, 0, none⟩ = some (.int .i8 2) := hg6.cell 0
  have c1 : w6.cell? ⟨w1.heap.size, 1, none⟩ = some (.string pathA) := hg6.cell 1
  have c2 : w6.cell? ⟨w1.heap.size, 2, none⟩ = some (.slice none 0 0) := hg6.cell 2
  have c3 : w6.cell? ⟨w1.heap.size, 3, none⟩ = some (.slice none 0 0) := hg6.cell 3
  have c4 : w6.cell? ⟨w1.heap.size, 4, none⟩ = some (.int .i32 (-1)) := hg6.cell 4
  have c5 : w6.cell? ⟨w1.heap.size, 5, none⟩ = some (.bool false) := hg6.cell 5
  have c6 : w6.cell? ⟨w1.heap.size, 6, none⟩ = some (.bool false) := hg6.cell 6
  have c7 : w6.cell? ⟨w1.heap.size, 7, none⟩ = some (.int .i64 0) := hg6.cell 7
  have c8 : w6.cell? ⟨w1.heap.size, 8, none⟩ = some (.int .i32 0) := hg6.cell 8
  have c9 : w6.cell? ⟨w1.heap.size, 9, none⟩ = some (.slice none 0 0) := hg6.cell 9
  have c10 : w6.cell? ⟨w1.heap.size, 10, none⟩ = some (.slice none 0 0) := hg6.cell 10
  have hne : w1.heap.size ≠ w.heap.size + 1 := by have := hg6.zlt; omega
  have hne' : w.heap.size + 1 ≠ w1.heap.size := fun e => hne e.symm
  have o0 : w6.cell? ⟨w.heap.size + 1, 0, none⟩ = some (.int .i8 0) := by rw [cell_of_row w6 _ 0 _ _ _ hg6.o]; rfl
  have o1 : w6.cell? ⟨w.heap.size + 1, 1, none⟩ = some (.string ⟨#[]⟩) := by rw [cell_of_row w6 _ 1 _ _ _ hg6.o]; rfl
  have o2 : w6.cell? ⟨w.heap.size + 1, 2, none⟩ = some (.slice none 0 0) := by rw [cell_of_row w6 _ 2 _ _ _ hg6.o]; rfl
  have o3 : w6.cell? ⟨w.heap.size + 1, 3, none⟩ = some (.slice none 0 0) := by rw [cell_of_row w6 _ 3 _ _ _ hg6.o]; rfl
  have o4 : w6.cell? ⟨w.heap.size + 1, 4, none⟩ = some (.int .i32 0) := by rw [cell_of_row w6 _ 4 _ _ _ hg6.o]; rfl
  have o5 : w6.cell? ⟨w.heap.size + 1, 5, none⟩ = some (.bool false) := by rw [cell_of_row w6 _ 5 _ _ _ hg6.o]; rfl
  have o6 : w6.cell? ⟨w.heap.size + 1, 6, none⟩ = some (.bool false) := by rw [cell_of_row w6 _ 6 _ _ _ hg6.o]; rfl
  have o7 : w6.cell? ⟨w.heap.size + 1, 7, none⟩ = some (.int .i64 0) := by rw [cell_of_row w6 _ 7 _ _ _ hg6.o]; rfl
  have o8 : w6.cell? ⟨w.heap.size + 1, 8, none⟩ = some (.int .i32 0) := by rw [cell_of_row w6 _ 8 _ _ _ hg6.o]; rfl
  have o9 : w6.cell? ⟨w.heap.size + 1, 9, none⟩ = some (.slice none 0 0) := by rw [cell_of_row w6 _ 9 _ _ _ hg6.o]; rfl
  have o10 : w6.cell? ⟨w.heap.size + 1, 10, none⟩ = some (.slice none 0 0) := by rw [cell_of_row w6 _ 10 _ _ _ hg6.o]; rfl
  have p0 : w6.frozen? ⟨w.heap.size + 1, 0, none⟩ = false := frozen_of_row w6 _ 0 _ _ hg6.o
  have p1 : w6.frozen? ⟨w.heap.size + 1, 1, none⟩ = false := frozen_of_row w6 _ 1 _ _ hg6.o
  have p2 : w6.frozen? ⟨w.heap.size + 1, 2, none⟩ = false := frozen_of_row w6 _ 2 _ _ hg6.o
  have p3 : w6.frozen? ⟨w.heap.size + 1, 3, none⟩ = false := frozen_of_row w6 _ 3 _ _ hg6.o
  have p4 : w6.frozen? ⟨w.heap.size + 1, 4, none⟩ = false := frozen_of_row w6 _ 4 _ _ hg6.o
  have p5 : w6.frozen? ⟨w.heap.size + 1, 5, none⟩ = false := frozen_of_row w6 _ 5 _ _ hg6.o
  have p6 : w6.frozen? ⟨w.heap.size + 1, 6, none⟩ = false := frozen_of_row w6 _ 6 _ _ hg6.o
  have p7 : w6.frozen? ⟨w.heap.size + 1, 7, none⟩ = false := frozen_of_row w6 _ 7 _ _ hg6.o
  have p8 : w6.frozen? ⟨w.heap.size + 1, 8, none⟩ = false := frozen_of_row w6 _ 8 _ _ hg6.o
  have p9 : w6.frozen? ⟨w.heap.size + 1, 9, none⟩ = false := frozen_of_row w6 _ 9 _ _ hg6.o
  have p10 : w6.frozen? ⟨w.heap.size + 1, 10, none⟩ = false := frozen_of_row w6 _ 10 _ _ hg6.o
  have HG9 : Hid (GD w (w6.setCell ⟨w1.heap.size, 9, none⟩ (.slice none 0 0)) g v6 ((wkB.drop 19).drop 4) w1.heap.size (rq0 2 pathA (-1) 0)) := hg6.set 9 (.slice none 0 0)
  clear hr hg6 HG8 l0 l1
  go_wp2_with fail
  obtain ⟨hrow, hk⟩ := stored11 (.int .i8 2) (.string pathA) (.slice none 0 0) (.slice none 0 0) (.int .i32 (-1)) (.bool false) (.bool false) (.int .i64 0) (.int .i32 0) (.slice none 0 0) (.slice none 0 0) HG9.out.o
  have hg := HG9.out.glt
  have hr' := HG9.out.r.kept hk (by omega) (fun k hk' => by have := HG9.out.vlt k hk'; omega)
  have hk' := HG9.out.kept.trans hk (fun k hk e => by omega)
  rw [show (wkB.drop 19).drop 4 = [] from rfl] at hr'
  refine bodyPost_ret (v := .agg (rq0 2 pathA (-1) 0)) ?_ rfl ⟨rfl, ⟨v6, hr'⟩, hk'⟩
  have hld := run_loadVar_row (P := Tryz.prog) _ _ _ 33 _ _ _ hrow Tryz.underlying33 rfl rq_size
  rw [resCell1 Tryz.results63]
  show ((asAddr (.pointer (some ⟨w.heap.size + 1, 0, none⟩))).run Tryz.prog _).andThen _ = _
  simp only [asAddr, Sem.run_pure, Result.andThen_ok, hld]
end Go.Proofs.YtoeialngbbfoeaaGreatDoor

/- What txn.Read answers of the bytes of the transaction that the statements' own first look makes. -/
namespace Go.Proofs.YtoeialngbbfoeaaGreatDoor
open Go.RowKit
set_option maxRecDepth 8000

/-- What stands while a transaction is read: the Reader at g, the transaction at t, the result's variable. -/
structure RDs (w W : World) (g : Nat) (v : Value) (xs : List Int) (t : Nat) (cs : Array Value) : Prop where
  r : IsR W g v xs 0
  q : W.heap[t]? = some (.cells cs 35 (0, 0))
  o : W.heap[w.heap.size]? = some (.cells #[.int .u32 0, .int .u32 0, .int .i8 0, .int .u32 0, .int .i64 0, .int .i8 0, .string ⟨#[]⟩, .slice none 0 0, .slice none 0 0, .int .i32 0, .bool false, .bool false, .int .i64 0, .int .i32 0, .slice none 0 0, .slice none 0 0] 35 (0, 0))
  nam : Nam W
  ng : 0 < w.heap.size
  gl : w.heap.size < g
  gt : g < t
  vlt : xs ≠ [] → ∀ k, v.ownBlock = some k → w.heap.size < k ∧ k < t
  bel : Below w.heap.size w W

theorem isR_keep {w w' : World} {S : Nat → Prop} {g : Nat} {v : Value} {xs : List Int} {f : Int} (h : IsR w g v xs f) (hk : Kept w w' S) (hg : ¬ S g) (hn : xs ≠ [] → ∀ k, v.ownBlock = some k → ¬ S k) : IsR w' g v xs f := by
  refine ⟨hk.heap h.1 hg, ?_⟩
  by_cases hx : xs = []
  · obtain ⟨ao, cap, rfl, h1, h2, h0, h3⟩ := h.2
    exact ⟨ao, cap, rfl, h1, h2, h0, .inl hx⟩
  · exact h.2.kept hk (hn hx)

section
variable {w W W' : World} {g : Nat} {v : Value} {xs ys : List Int} {t : Nat} {cs : Array Value}

theorem RDs.read {n : Int} (h : RDs w W g v xs t cs) (hx : xs ≠ []) (hr : ReadsTo W g v ⟨n, ys, 0⟩ W') : ∃ v', RDs w W' g v' ys t cs := by
  obtain ⟨v', h1, h2, h3⟩ := hr
  have a := h.gl
  have b := h.gt
  exact ⟨v', h1, h3.heap h.q (by omega), h3.heap h.o (by omega), h.nam.kept h3 (fun k hk e => by have := h.ng; omega), h.ng, h.gl, h.gt, fun _ k hk => h.vlt hx k (h2 k hk), h.bel.trans (h3.below h.bel.size (fun k e => by omega))⟩

theorem RDs.got (h : RDs w W g v xs t cs) (hr : (∃ v', IsR W' g v' [] 0) ∧ Kept W W' (· = g)) : ∃ v', RDs w W' g v' [] t cs := by
  obtain ⟨⟨v', h1⟩, h3⟩ := hr
  have a := h.gl
  have b := h.gt
  exact ⟨v', h1, h3.heap h.q (by omega), h3.heap h.o (by omega), h.nam.kept h3 (fun k hk e => by have := h.ng; omega), h.ng, h.gl, h.gt, fun hx => absurd rfl hx, h.bel.trans (h3.below h.bel.size (fun k e => by omega))⟩

theorem RDs.later (h : RDs w W g v xs t cs) (hb : Below W.heap.size W W') : RDs w W' g v xs t cs := by
  have hk := Below.kept hb
  have hs := h.bel.size
  have a := h.gl
  have b := h.gt
  have c := lt_of_block h.q
  exact ⟨isR_keep h.r hk (by omega) (fun hx k hk' => by have := h.vlt hx k hk'; omega), hk.heap h.q (by omega), hk.heap h.o (by omega), h.nam.below hb h.nam.lt, h.ng, h.gl, h.gt, h.vlt, h.bel.trans (hb.mono hs)⟩

theorem RDs.set (h : RDs w W g v xs t cs) (j : Nat) (u : Value) : RDs w (W.setCell ⟨t, j, none⟩ u) g v xs t (cs.setIfInBounds j u) := by
  have a := h.gl
  have b := h.gt
  have hk : Kept W (W.setCell ⟨t, j, none⟩ u) (fun k => k = t) := (Kept.refl W (fun k => k = t)).setCell _ _ (fun _ => rfl)
  refine ⟨isR_keep h.r hk (by omega) (fun hx k hk' => by have := h.vlt hx k hk'; omega), ?_, hk.heap h.o (by omega), h.nam.kept hk (fun k hk' e => by have := h.ng; omega), h.ng, h.gl, h.gt, h.vlt, h.bel.trans (hk.below h.bel.size (fun k e => by omega))⟩
  rw [heap_setCell_same W t j _ _ _ h.q]

theorem RDs.cell (h : RDs w W g v xs t cs) (j : Nat) : W.cell? ⟨t, j, none⟩ = cs[j]? := by
  rw [cell_of_row W t j _ _ _ h.q]
theorem RDs.fr (h : RDs w W g v xs t cs) (j : Nat) : W.frozen? ⟨t, j, none⟩ = false := frozen_of_row W t j _ _ h.q
end

theorem ra1 : rdNum 4 wkAll 0 = ⟨1, wkAll.drop 4, 0⟩ := by simp [rdNum, num, wkAll]
theorem ra2 : rdNum 4 (wkAll.drop 4) 0 = ⟨2, wkAll.drop 8, 0⟩ := by simp [rdNum, num, wkAll]
theorem ra3 : rdNum 1 (wkAll.drop 8) 0 = ⟨3, wkAll.drop 9, 0⟩ := by simp [rdNum, num, wkAll]
theorem ra4 : rdNum 4 (wkAll.drop 9) 0 = ⟨4, wkAll.drop 13, 0⟩ := by simp [rdNum, num, wkAll]
theorem ra5 : rdNum 8 (wkAll.drop 13) 0 = ⟨5, wkAll.drop 21, 0⟩ := by simp [rdNum, num, wkAll]
theorem ra6 : wkAll.drop 21 = wkB := by rfl
theorem ra3' : IntKind.i8.wrap 3 = 3 := by decide
theorem ra5' : wrap64 5 = 5 := by unfold wrap64; omega
theorem raByts (k : Nat) : Byts (wkAll.drop k) := Byts.drop (fun x hx => by
  have : wkAll.all (fun x => decide (0 ≤ x ∧ x ≤ 255)) = true := by decide
  have := List.all_eq_true.1 this x hx
  simpa using this) k
set_option maxHeartbeats 4000000 in
theorem read_works (u : Value) (w : World) (hu : Sees w u wkAll) (hn : Nam w) :
    Calls Tryz.prog 16 #[u] w fun e w' => e = .returned (.tuple #[.agg txW, .int .i64 0]) ∧ Below w.heap.size w w' := by
  obtain ⟨ao, cap, rfl, _⟩ := id hu
  have HU : Hid (Sees w (.slice ao wkAll.length cap) wkAll ∧ Nam w) := ⟨hu, hn⟩
  rw [show wkAll.length = 44 from rfl] at *
  clear hu hn
  obtain ⟨W0, eW⟩ : ∃ W0, W0 = w.alloc (.cells #[.int .u32 0, .int .u32 0, .int .i8 0, .int .u32 0, .int .i64 0, .int .i8 0, .string ⟨#[]⟩, .slice none 0 0, .slice none 0 0, .int .i32 0, .bool false, .bool false, .int .i64 0, .int .i32 0, .slice none 0 0, .slice none 0 0] 35) := ⟨_, rfl⟩
  have HE0 : Hid _ := eW
  have HB0 : Hid (Below w.heap.size w W0 ∧ W0.heap.size = w.heap.size + 1 ∧ W0.heap[w.heap.size]? = some (.cells #[.int .u32 0, .int .u32 0, .int .i8 0, .int .u32 0, .int .i64 0, .int .i8 0, .string ⟨#[]⟩, .slice none 0 0, .slice none 0 0, .int .i32 0, .bool false, .bool false, .int .i64 0, .int .i32 0, .slice none 0 0, .slice none 0 0] 35 (0, 0))) := by
    subst eW; exact ⟨one_alloc _ _, by simp, heap_alloc_new _ _⟩
  clear eW
  go_enter Tryz.func16, Tryz.ntmps16
  go_wp2_with fail
  rw [← HE0.out]
  refine (new_any _ wkAll _ (HU.out.1.below HB0.out.1 (Nat.le_refl _)) (by simp [wkAll])).mono ?_
  rintro r w1 ⟨g, v, rfl, hR, hg1, ho, b1⟩
  obtain ⟨V, eV⟩ : ∃ V, V = w1.alloc (.cells #[.int .u32 0, .int .u32 0, .int .i8 0, .int .u32 0, .int .i64 0, .int .i8 0, .string ⟨#[]⟩, .slice none 0 0, .slice none 0 0, .int .i32 0, .bool false, .bool false, .int .i64 0, .int .i32 0, .slice none 0 0, .slice none 0 0] 35) := ⟨_, rfl⟩
  have HR : Hid (RDs w V g v wkAll w1.heap.size #[.int .u32 0, .int .u32 0, .int .i8 0, .int .u32 0, .int .i64 0, .int .i8 0, .string ⟨#[]⟩, .slice none 0 0, .slice none 0 0, .int .i32 0, .bool false, .bool false, .int .i64 0, .int .i32 0, .slice none 0 0, .slice none 0 0]) := by
    have hs := HB0.out.2.1
    have hb01 : Below w.heap.size w w1 := HB0.out.1.trans (b1.mono HB0.out.1.size)
    have hka : Kept w1 V (fun _ => False) := by subst eV; exact (Kept.refl w1 (fun _ => False)).alloc _
    have hvb : Below w.heap.size w V := by subst eV; exact hb01.alloc hb01.size _
    have ho1 : w1.heap[w.heap.size]? = some (.cells #[.int .u32 0, .int .u32 0, .int .i8 0, .int .u32 0, .int .i64 0, .int .i8 0, .string ⟨#[]⟩, .slice none 0 0, .slice none 0 0, .int .i32 0, .bool false, .bool false, .int .i64 0, .int .i32 0, .slice none 0 0, .slice none 0 0] 35 (0, 0)) := by
      rw [b1.block w.heap.size (by omega)]; exact HB0.out.2.2
    refine ⟨hR.kept hka (fun h => h) (fun _ _ h => h), by subst eV; exact heap_alloc_new _ _, hka.heap ho1 (fun h => h), HU.out.2.below hvb HU.out.2.lt, HU.out.2.lt, by omega, lt_of_block hR.1, fun _ k hk => ?_, hvb⟩
    have := ho.lt k hk
    omega
  have HE : Hid _ := eV
  clear hR hg1 ho b1 HB0 HE0 eV
  go_wp2_with fail
  rw [← HE.out]
  have HR1 : Hid _ := HR.out
  clear HR
  refine (rUint32_any g _ _ 0 _ HR1.out.r (raByts 0)).mono ?_
  rintro r w2 ⟨rfl, hr⟩
  rw [ra1] at hr ⊢
  obtain ⟨v2, h2⟩ := HR1.out.read (by simp [wkAll]) hr
  have HR2 : Hid (RDs w w2 g v2 (wkAll.drop 4) w1.heap.size #[.int .u32 0, .int .u32 0, .int .i8 0, .int .u32 0, .int .i64 0, .int .i8 0, .string ⟨#[]⟩, .slice none 0 0, .slice none 0 0, .int .i32 0, .bool false, .bool false, .int .i64 0, .int .i32 0, .slice none 0 0, .slice none 0 0]) := h2
  have f0 := h2.fr 0
  have c0 := h2.cell 0
  simp at c0
  clear hr h2 HR1
  go_wp2_with fail
  have HR3 : Hid (RDs w (w2.setCell ⟨w1.heap.size, 0, none⟩ (.int .u32 1)) g v2 (wkAll.drop 4) w1.heap.size #[.int .u32 1, .int .u32 0, .int .i8 0, .int .u32 0, .int .i64 0, .int .i8 0, .string ⟨#[]⟩, .slice none 0 0, .slice none 0 0, .int .i32 0, .bool false, .bool false, .int .i64 0, .int .i32 0, .slice none 0 0, .slice none 0 0]) := HR2.out.set 0 (.int .u32 1)
  clear f0 c0 HR2
  refine (rUint32_any g _ _ 0 _ HR3.out.r (raByts 4)).mono ?_
  rintro r w3 ⟨rfl, hr⟩
  rw [ra2] at hr ⊢
  obtain ⟨v3, h2⟩ := HR3.out.read (by simp [wkAll]) hr
  have HR4 : Hid (RDs w w3 g v3 (wkAll.drop 8) w1.heap.size #[.int .u32 1, .int .u32 0, .int .i8 0, .int .u32 0, .int .i64 0, .int .i8 0, .string ⟨#[]⟩, .slice none 0 0, .slice none 0 0, .int .i32 0, .bool false, .bool false, .int .i64 0, .int .i32 0, .slice none 0 0, .slice none 0 0]) := h2
  have f0 := h2.fr 1
  have c0 := h2.cell 1
  simp at c0
  clear hr h2 HR3
  go_wp2_with fail
  have HR5 : Hid (RDs w (w3.setCell ⟨w1.heap.size, 1, none⟩ (.int .u32 2)) g v3 (wkAll.drop 8) w1.heap.size #[.int .u32 1, .int .u32 2, .int .i8 0, .int .u32 0, .int .i64 0, .int .i8 0, .string ⟨#[]⟩, .slice none 0 0, .slice none 0 0, .int .i32 0, .bool false, .bool false, .int .i64 0, .int .i32 0, .slice none 0 0, .slice none 0 0]) := HR4.out.set 1 (.int .u32 2)
  clear f0 c0 HR4
  refine (rInt8_any g _ _ 0 _ HR5.out.r (raByts 8)).mono ?_
  rintro r w4 ⟨rfl, hr⟩
  rw [ra3] at hr ⊢
  simp only [ra3']
  obtain ⟨v4, h2⟩ := HR5.out.read (by simp [wkAll]) hr
  have HR6 : Hid (RDs w w4 g v4 (wkAll.drop 9) w1.heap.size #[.int .u32 1, .int .u32 2, .int .i8 0, .int .u32 0, .int .i64 0, .int .i8 0, .string ⟨#[]⟩, .slice none 0 0, .slice none 0 0, .int .i32 0, .bool false, .bool false, .int .i64 0, .int .i32 0, .slice none 0 0, .slice none 0 0]) := h2
  have f0 := h2.fr 2
  have c0 := h2.cell 2
  simp at c0
  clear hr h2 HR5
  go_wp2_with fail
  have HR7 : Hid (RDs w (w4.setCell ⟨w1.heap.size, 2, none⟩ (.int .i8 3)) g v4 (wkAll.drop 9) w1.heap.size #[.int .u32 1, .int .u32 2, .int .i8 3, .int .u32 0, .int .i64 0, .int .i8 0, .string ⟨#[]⟩, .slice none 0 0, .slice none 0 0, .int .i32 0, .bool false, .bool false, .int .i64 0, .int .i32 0, .slice none 0 0, .slice none 0 0]) := HR6.out.set 2 (.int .i8 3)
  clear f0 c0 HR6
  refine (rUint32_any g _ _ 0 _ HR7.out.r (raByts 9)).mono ?_
  rintro r w5 ⟨rfl, hr⟩
  rw [ra4] at hr ⊢
  obtain ⟨v5, h2⟩ := HR7.out.read (by simp [wkAll]) hr
  have HR8 : Hid (RDs w w5 g v5 (wkAll.drop 13) w1.heap.size #[.int .u32 1, .int .u32 2, .int .i8 3, .int .u32 0, .int .i64 0, .int .i8 0, .string ⟨#[]⟩, .slice none 0 0, .slice none 0 0, .int .i32 0, .bool false, .bool false, .int .i64 0, .int .i32 0, .slice none 0 0, .slice none 0 0]) := h2
  have f0 := h2.fr 3
  have c0 := h2.cell 3
  simp at c0
  clear hr h2 HR7
  go_wp2_with fail
  have HR9 : Hid (RDs w (w5.setCell ⟨w1.heap.size, 3, none⟩ (.int .u32 4)) g v5 (wkAll.drop 13) w1.heap.size #[.int .u32 1, .int .u32 2, .int .i8 3, .int .u32 4, .int .i64 0, .int .i8 0, .string ⟨#[]⟩, .slice none 0 0, .slice none 0 0, .int .i32 0, .bool false, .bool false, .int .i64 0, .int .i32 0, .slice none 0 0, .slice none 0 0]) := HR8.out.set 3 (.int .u32 4)
  clear f0 c0 HR8
  refine (rInt64_any g _ _ 0 _ HR9.out.r (raByts 13)).mono ?_
  rintro r w6 ⟨rfl, hr⟩
  rw [ra5] at hr ⊢
  simp only [ra5']
  obtain ⟨v6, h2⟩ := HR9.out.read (by simp [wkAll]) hr
  have HR10 : Hid (RDs w w6 g v6 (wkAll.drop 21) w1.heap.size #[.int .u32 1, .int .u32 2, .int .i8 3, .int .u32 4, .int .i64 0, .int .i8 0, .string ⟨#[]⟩, .slice none 0 0, .slice none 0 0, .int .i32 0, .bool false, .bool false, .int .i64 0, .int .i32 0, .slice none 0 0, .slice none 0 0]) := h2
  have f0 := h2.fr 4
  have c0 := h2.cell 4
  simp at c0
  clear hr h2 HR9
  go_wp2_with fail
  have HR11 : Hid (RDs w (w6.setCell ⟨w1.heap.size, 4, none⟩ (.int .i64 5)) g v6 (wkAll.drop 21) w1.heap.size #[.int .u32 1, .int .u32 2, .int .i8 3, .int .u32 4, .int .i64 5, .int .i8 0, .string ⟨#[]⟩, .slice none 0 0, .slice none 0 0, .int .i32 0, .bool false, .bool false, .int .i64 0, .int .i32 0, .slice none 0 0, .slice none 0 0]) := HR10.out.set 4 (.int .i64 5)
  clear f0 c0 HR10
  refine (proposed_any _).mono ?_
  rintro r w7 ⟨rfl, b7⟩
  have HR12 : Hid (RDs w w7 g v6 wkB w1.heap.size #[.int .u32 1, .int .u32 2, .int .i8 3, .int .u32 4, .int .i64 5, .int .i8 0, .string ⟨#[]⟩, .slice none 0 0, .slice none 0 0, .int .i32 0, .bool false, .bool false, .int .i64 0, .int .i32 0, .slice none 0 0, .slice none 0 0]) := by
    have := HR11.out.later b7
    rw [ra6] at this
    exact this
  clear b7 HR11
  go_wp2_with fail
  refine (get_works g v6 _ HR12.out.r HR12.out.nam (by have := HR12.out.ng; have := HR12.out.gl; omega)).mono ?_
  rintro r w8 ⟨rfl, hr⟩
  obtain ⟨v8, h8⟩ := HR12.out.got hr
  have f5 := h8.fr 5
  have f6 := h8.fr 6
  have f7 := h8.fr 7
  have f8 := h8.fr 8
  have f9 := h8.fr 9
  have f10 := h8.fr 10
  have f11 := h8.fr 11
  have f12 := h8.fr 12
  have f13 := h8.fr 13
  have f14 := h8.fr 14
  have f15 := h8.fr 15
  have c5 : w8.cell? ⟨w1.heap.size, 5, none⟩ = some (.int .i8 0) := h8.cell 5
  have c6 : w8.cell? ⟨w1.heap.size, 6, none⟩ = some (.string ⟨#[]⟩) := h8.cell 6
  have c7 : w8.cell? ⟨w1.heap.size, 7, none⟩ = some (.slice none 0 0) := h8.cell 7
  have c8 : w8.cell? ⟨w1.heap.size, 8, none⟩ = some (.slice none 0 0) := h8.cell 8
  have c9 : w8.cell? ⟨w1.heap.size, 9, none⟩ = some (.int .i32 0) := h8.cell 9
  have c10 : w8.cell? ⟨w1.heap.size, 10, none⟩ = some (.bool false) := h8.cell 10
  have c11 : w8.cell? ⟨w1.heap.size, 11, none⟩ = some (.bool false) := h8.cell 11
  have c12 : w8.cell? ⟨w1.heap.size, 12, none⟩ = some (.int .i64 0) := h8.cell 12
  have c13 : w8.cell? ⟨w1.heap.size, 13, none⟩ = some (.int .i32 0) := h8.cell 13
  have c14 : w8.cell? ⟨w1.heap.size, 14, none⟩ = some (.slice none 0 0) := h8.cell 14
  have c15 : w8.cell? ⟨w1.heap.size, 15, none⟩ = some (.slice none 0 0) := h8.cell 15
  obtain ⟨U, eU⟩ : ∃ U, U = (((((((((((w8.setCell ⟨w1.heap.size, 5, none⟩ (.int .i8 2)).setCell ⟨w1.heap.size, 6, none⟩ (.string pathA)).setCell ⟨w1.heap.size, 7, none⟩ (.slice none 0 0)).setCell ⟨w1.heap.size, 8, none⟩ (.slice none 0 0)).setCell ⟨w1.heap.size, 9, none⟩ (.int .i32 (-1))).setCell ⟨w1.heap.size, 10, none⟩ (.bool false)).setCell ⟨w1.heap.size, 11, none⟩ (.bool false)).setCell ⟨w1.heap.size, 12, none⟩ (.int .i64 0)).setCell ⟨w1.heap.size, 13, none⟩ (.int .i32 0)).setCell ⟨w1.heap.size, 14, none⟩ (.slice none 0 0)).setCell ⟨w1.heap.size, 15, none⟩ (.slice none 0 0)) := ⟨_, rfl⟩
  have HU13 : Hid (RDs w U g v8 [] w1.heap.size #[.int .u32 1, .int .u32 2, .int .i8 3, .int .u32 4, .int .i64 5, .int .i8 2, .string pathA, .slice none 0 0, .slice none 0 0, .int .i32 (-1), .bool false, .bool false, .int .i64 0, .int .i32 0, .slice none 0 0, .slice none 0 0]) := by subst eU; exact (((((((((((h8.set 5 (.int .i8 2)).set 6 (.string pathA)).set 7 (.slice none 0 0)).set 8 (.slice none 0 0)).set 9 (.int .i32 (-1))).set 10 (.bool false)).set 11 (.bool false)).set 12 (.int .i64 0)).set 13 (.int .i32 0)).set 14 (.slice none 0 0)).set 15 (.slice none 0 0))
  have HEU : Hid _ := eU
  clear hr h8 HR12 eU
  go_wp2_with fail
  rw [← HEU.out]
  clear f5 c5 f6 c6 f7 c7 f8 c8 f9 c9 f10 c10 f11 c11 f12 c12 f13 c13 f14 c14 f15 c15
  refine (rEnd_any g v8 [] 0 _ HU13.out.r).mono ?_
  rintro r w9 ⟨rfl, rfl⟩
  clear HEU
  simp only [ne_eq, not_true_eq_false, if_false, if_true]
  have c0 : w9.cell? ⟨w1.heap.size, 0, none⟩ = some (.int .u32 1) := HU13.out.cell 0
  have c1 : w9.cell? ⟨w1.heap.size, 1, none⟩ = some (.int .u32 2) := HU13.out.cell 1
  have c2 : w9.cell? ⟨w1.heap.size, 2, none⟩ = some (.int .i8 3) := HU13.out.cell 2
  have c3 : w9.cell? ⟨w1.heap.size, 3, none⟩ = some (.int .u32 4) := HU13.out.cell 3
  have c4 : w9.cell? ⟨w1.heap.size, 4, none⟩ = some (.int .i64 5) := HU13.out.cell 4
  have c5 : w9.cell? ⟨w1.heap.size, 5, none⟩ = some (.int .i8 2) := HU13.out.cell 5
  have c6 : w9.cell? ⟨w1.heap.size, 6, none⟩ = some (.string pathA) := HU13.out.cell 6
  have c7 : w9.cell? ⟨w1.heap.size, 7, none⟩ = some (.slice none 0 0) := HU13.out.cell 7
  have c8 : w9.cell? ⟨w1.heap.size, 8, none⟩ = some (.slice none 0 0) := HU13.out.cell 8
  have c9 : w9.cell? ⟨w1.heap.size, 9, none⟩ = some (.int .i32 (-1)) := HU13.out.cell 9
  have c10 : w9.cell? ⟨w1.heap.size, 10, none⟩ = some (.bool false) := HU13.out.cell 10
  have c11 : w9.cell? ⟨w1.heap.size, 11, none⟩ = some (.bool false) := HU13.out.cell 11
  have c12 : w9.cell? ⟨w1.heap.size, 12, none⟩ = some (.int .i64 0) := HU13.out.cell 12
  have c13 : w9.cell? ⟨w1.heap.size, 13, none⟩ = some (.int .i32 0) := HU13.out.cell 13
  have c14 : w9.cell? ⟨w1.heap.size, 14, none⟩ = some (.slice none 0 0) := HU13.out.cell 14
  have c15 : w9.cell? ⟨w1.heap.size, 15, none⟩ = some (.slice none 0 0) := HU13.out.cell 15
  go_wp2_with fail
  refine (check_works _ HU13.out.nam).mono ?_
  rintro r w10 ⟨rfl, b10⟩
  have h10 := HU13.out.later b10
  clear b10 c0 c1 c2 c3 c4 c5 c6 c7 c8 c9 c10 c11 c12 c13 c14 c15
  have c0 : w10.cell? ⟨w1.heap.size, 0, none⟩ = some (.int .u32 1) := h10.cell 0
  have c1 : w10.cell? ⟨w1.heap.size, 1, none⟩ = some (.int .u32 2) := h10.cell 1
  have c2 : w10.cell? ⟨w1.heap.size, 2, none⟩ = some (.int .i8 3) := h10.cell 2
  have c3 : w10.cell? ⟨w1.heap.size, 3, none⟩ = some (.int .u32 4) := h10.cell 3
  have c4 : w10.cell? ⟨w1.heap.size, 4, none⟩ = some (.int .i64 5) := h10.cell 4
  have c5 : w10.cell? ⟨w1.heap.size, 5, none⟩ = some (.int .i8 2) := h10.cell 5
  have c6 : w10.cell? ⟨w1.heap.size, 6, none⟩ = some (.string pathA) := h10.cell 6
  have c7 : w10.cell? ⟨w1.heap.size, 7, none⟩ = some (.slice none 0 0) := h10.cell 7
  have c8 : w10.cell? ⟨w1.heap.size, 8, none⟩ = some (.slice none 0 0) := h10.cell 8
  have c9 : w10.cell? ⟨w1.heap.size, 9, none⟩ = some (.int .i32 (-1)) := h10.cell 9
  have c10 : w10.cell? ⟨w1.heap.size, 10, none⟩ = some (.bool false) := h10.cell 10
  have c11 : w10.cell? ⟨w1.heap.size, 11, none⟩ = some (.bool false) := h10.cell 11
  have c12 : w10.cell? ⟨w1.heap.size, 12, none⟩ = some (.int .i64 0) := h10.cell 12
  have c13 : w10.cell? ⟨w1.heap.size, 13, none⟩ = some (.int .i32 0) := h10.cell 13
  have c14 : w10.cell? ⟨w1.heap.size, 14, none⟩ = some (.slice none 0 0) := h10.cell 14
  have c15 : w10.cell? ⟨w1.heap.size, 15, none⟩ = some (.slice none 0 0) := h10.cell 15
  have o0 : w10.cell? ⟨w.heap.size, 0, none⟩ = some (.int .u32 0) := by rw [cell_of_row _ _ 0 _ _ _ h10.o]; rfl
  have o1 : w10.cell? ⟨w.heap.size, 1, none⟩ = some (.int .u32 0) := by rw [cell_of_row _ _ 1 _ _ _ h10.o]; rfl
  have o2 : w10.cell? ⟨w.heap.size, 2, none⟩ = some (.int .i8 0) := by rw [cell_of_row _ _ 2 _ _ _ h10.o]; rfl
  have o3 : w10.cell? ⟨w.heap.size, 3, none⟩ = some (.int .u32 0) := by rw [cell_of_row _ _ 3 _ _ _ h10.o]; rfl
  have o4 : w10.cell? ⟨w.heap.size, 4, none⟩ = some (.int .i64 0) := by rw [cell_of_row _ _ 4 _ _ _ h10.o]; rfl
  have o5 : w10.cell? ⟨w.heap.size, 5, none⟩ = some (.int .i8 0) := by rw [cell_of_row _ _ 5 _ _ _ h10.o]; rfl
  have o6 : w10.cell? ⟨w.heap.size, 6, none⟩ = some (.string ⟨#[]⟩) := by rw [cell_of_row _ _ 6 _ _ _ h10.o]; rfl
  have o7 : w10.cell? ⟨w.heap.size, 7, none⟩ = some (.slice none 0 0) := by rw [cell_of_row _ _ 7 _ _ _ h10.o]; rfl
  have o8 : w10.cell? ⟨w.heap.size, 8, none⟩ = some (.slice none 0 0) := by rw [cell_of_row _ _ 8 _ _ _ h10.o]; rfl
  have o9 : w10.cell? ⟨w.heap.size, 9, none⟩ = some (.int .i32 0) := by rw [cell_of_row _ _ 9 _ _ _ h10.o]; rfl
  have o10 : w10.cell? ⟨w.heap.size, 10, none⟩ = some (.bool false) := by rw [cell_of_row _ _ 10 _ _ _ h10.o]; rfl
  have o11 : w10.cell? ⟨w.heap.size, 11, none⟩ = some (.bool false) := by rw [cell_of_row _ _ 11 _ _ _ h10.o]; rfl
  have o12 : w10.cell? ⟨w.heap.size, 12, none⟩ = some (.int .i64 0) := by rw [cell_of_row _ _ 12 _ _ _ h10.o]; rfl
  have o13 : w10.cell? ⟨w.heap.size, 13, none⟩ = some (.int .i32 0) := by rw [cell_of_row _ _ 13 _ _ _ h10.o]; rfl
  have o14 : w10.cell? ⟨w.heap.size, 14, none⟩ = some (.slice none 0 0) := by rw [cell_of_row _ _ 14 _ _ _ h10.o]; rfl
  have o15 : w10.cell? ⟨w.heap.size, 15, none⟩ = some (.slice none 0 0) := by rw [cell_of_row _ _ 15 _ _ _ h10.o]; rfl
  have p0 : w10.frozen? ⟨w.heap.size, 0, none⟩ = false := frozen_of_row _ _ 0 _ _ h10.o
  have p1 : w10.frozen? ⟨w.heap.size, 1, none⟩ = false := frozen_of_row _ _ 1 _ _ h10.o
  have p2 : w10.frozen? ⟨w.heap.size, 2, none⟩ = false := frozen_of_row _ _ 2 _ _ h10.o
  have p3 : w10.frozen? ⟨w.heap.size, 3, none⟩ = false := frozen_of_row _ _ 3 _ _ h10.o
  have p4 : w10.frozen? ⟨w.heap.size, 4, none⟩ = false := frozen_of_row _ _ 4 _ _ h10.o
  have p5 : w10.frozen? ⟨w.heap.size, 5, none⟩ = false := frozen_of_row _ _ 5 _ _ h10.o
  have p6 : w10.frozen? ⟨w.heap.size, 6, none⟩ = false := frozen_of_row _ _ 6 _ _ h10.o
  have p7 : w10.frozen? ⟨w.heap.size, 7, none⟩ = false := frozen_of_row _ _ 7 _ _ h10.o
  have p8 : w10.frozen? ⟨w.heap.size, 8, none⟩ = false := frozen_of_row _ _ 8 _ _ h10.o
  have p9 : w10.frozen? ⟨w.heap.size, 9, none⟩ = false := frozen_of_row _ _ 9 _ _ h10.o
  have p10 : w10.frozen? ⟨w.heap.size, 10, none⟩ = false := frozen_of_row _ _ 10 _ _ h10.o
  have p11 : w10.frozen? ⟨w.heap.size, 11, none⟩ = false := frozen_of_row _ _ 11 _ _ h10.o
  have p12 : w10.frozen? ⟨w.heap.size, 12, none⟩ = false := frozen_of_row _ _ 12 _ _ h10.o
  have p13 : w10.frozen? ⟨w.heap.size, 13, none⟩ = false := frozen_of_row _ _ 13 _ _ h10.o
  have p14 : w10.frozen? ⟨w.heap.size, 14, none⟩ = false := frozen_of_row _ _ 14 _ _ h10.o
  have p15 : w10.frozen? ⟨w.heap.size, 15, none⟩ = false := frozen_of_row _ _ 15 _ _ h10.o
  have hne : w1.heap.size ≠ w.heap.size := by have := h10.gl; have := h10.gt; omega
  have hne' : w.heap.size ≠ w1.heap.size := fun e => hne e.symm
  have H10 : Hid (RDs w w10 g v8 [] w1.heap.size #[.int .u32 1, .int .u32 2, .int .i8 3, .int .u32 4, .int .i64 5, .int .i8 2, .string pathA, .slice none 0 0, .slice none 0 0, .int .i32 (-1), .bool false, .bool false, .int .i64 0, .int .i32 0, .slice none 0 0, .slice none 0 0]) := h10
  clear h10 HU13
  go_wp2_with fail
  obtain ⟨hrow, hk⟩ := stored16 (.int .u32 1) (.int .u32 2) (.int .i8 3) (.int .u32 4) (.int .i64 5) (.int .i8 2) (.string pathA) (.slice none 0 0) (.slice none 0 0) (.int .i32 (-1)) (.bool false) (.bool false) (.int .i64 0) (.int .i32 0) (.slice none 0 0) (.slice none 0 0) H10.out.o
  refine bodyPost_ret (v := .tuple #[.agg txW, .int .i64 0]) ?_ rfl ⟨rfl, H10.out.bel.trans (hk.below H10.out.bel.size (fun k e => by omega))⟩
  have hld := run_loadVar_row (P := Tryz.prog) _ _ _ 35 _ _ _ hrow Tryz.underlying35 rfl tx_size
  rw [results_cell_tmp Tryz.results16]
  show ((asAddr (.pointer (some ⟨w.heap.size, 0, none⟩))).run Tryz.prog _).andThen _ = _
  simp only [asAddr, Sem.run_pure, Result.andThen_ok, hld]
  rfl
end Go.Proofs.YtoeialngbbfoeaaGreatDoor
