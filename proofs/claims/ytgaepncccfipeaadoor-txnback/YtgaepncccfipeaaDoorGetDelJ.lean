/- What get of package txn reads of a Delete without ids. -/
import Derived.Test.YtgaepncccfipeaaDoorChk5J
import Derived.Test.YtgaepncccfipeaaDoorDblJ
import Derived.Test.YtgaepncccfipeaaDoorZxJ
import Derived.Test.YtgaepncccfipeaaDoorWfBJ
namespace Go.Proofs.YtgaepncccfipeaaDoor
open Go.RowKit
set_option maxRecDepth 8000

set_option maxHeartbeats 400000 in
theorem getListI_zero (fv : Value) (g : Nat) (v : Value) (xs : List Int) (most : Int) (w : World) (h : IsR w g v xs 0) (hb : Byts xs) (hl : 4 ≤ xs.length) (ha : ahead xs = 0) (hm : 0 ≤ most) :
    Calls Tryd.prog 61 #[.pointer (some ⟨g, 0, none⟩), .int .i64 most, fv] w fun e w' => e = .returned (.slice none 0 0) ∧ ReadsTo w g v ⟨0, xs.drop 4, 0⟩ w' := by
  have H : Hid (IsR w g v xs 0 ∧ Byts xs ∧ ahead xs = 0) := ⟨h, hb, ha⟩
  clear h hb ha
  go_enter Tryd.func61, Tryd.ntmps61
  go_wp2_with fail
  refine (rSize_ok g v xs most _ H.out.1 H.out.2.1 (by omega) (by rw [H.out.2.2]; omega) (by rw [H.out.2.2]; omega) (by rw [H.out.2.2]; omega)).mono ?_
  rintro e w1 ⟨rfl, rfl⟩
  rw [H.out.2.2]
  go_wp2_with fail
  refine (rSkip_ok g v xs 4 0 _ H.out.1 hl).mono ?_
  rintro e w2 ⟨rfl, hw2⟩
  have HR : Hid (ReadsTo w1 g v ⟨0, xs.drop 4, 0⟩ w2) := by rw [hw2]; exact ReadsTo.skip (n := 4) H.out.1 hl
  clear hw2
  go_wp2
  go_loopw [9, 10] (fun l i wr => l = .slice none 0 0 ∧ i = .int .i64 0 ∧ ReadsTo w1 g v ⟨0, xs.drop 4, 0⟩ wr) (fun _ _ _ => 0)
  case atStart => exact ⟨rfl, rfl, HR.out⟩
  case round =>
    obtain ⟨rfl, rfl, hr⟩ := hrel
    have HR2 : Hid (ReadsTo w1 g v ⟨0, xs.drop 4, 0⟩ wr) := hr
    clear hr HR
    go_wp2_with fail
    obtain ⟨v', hv', _⟩ := HR2.out
    refine (rReads_any g v' _ 0 _ hv').mono ?_
    rintro e w3 ⟨rfl, rfl⟩
    clear hv'
    go_wp2
    go_ret
    exact ⟨rfl, HR2.out⟩

abbrev rq0 (k : Int) (s : ByteArray) (ver ses : Int) : Array Value := #[.int .i8 k, .string s, .slice none 0 0, .slice none 0 0, .int .i32 ver, .bool false, .bool false, .int .i64 ses, .int .i32 0, .slice none 0 0, .slice none 0 0]

/-- What stands while a request is read: the Reader at g, the request at z, the layout and the result's variable. -/
structure GD (w W : World) (g : Nat) (v : Value) (xs : List Int) (z : Nat) (cs : Array Value) : Prop where
  r : IsR W g v xs 0
  q : W.heap[z]? = some (.cells cs 33 (0, 0))
  l : W.heap[w.heap.size]? = some (.cells #[.int .i8 8, .int .u16 0] 55 (0, 0))
  o : W.heap[w.heap.size + 1]? = some (.cells (rq0 0 ⟨#[]⟩ 0 0) 33 (0, 0))
  nam : Nam W
  ng : 0 < g
  zlt : w.heap.size + 1 < z
  glt : g < w.heap.size
  vlt : ∀ k, v.ownBlock = some k → k < w.heap.size
  kept : Kept w W (· = g)

theorem Nam.kept {w w' : World} {S : Nat → Prop} (h : Nam w) (hk : Kept w w' S) (hn : ∀ k, k ≤ 0 → ¬ S k) : Nam w' :=
  h.below (B := 0 + 1) ⟨hk.os, hk.tape, hk.output, hk.size, fun k hk' => hk.block k (by have := h.lt; omega) (hn k (by omega))⟩ (by omega)

theorem GD.read {w W W' : World} {g : Nat} {v : Value} {xs ys : List Int} {z : Nat} {cs : Array Value} {n : Int} (h : GD w W g v xs z cs) (hr : ReadsTo W g v ⟨n, ys, 0⟩ W') : ∃ v', GD w W' g v' ys z cs := by
  obtain ⟨v', h1, h2, h3⟩ := hr
  have hz := h.zlt
  have hg := h.glt
  exact ⟨v', h1, h3.heap h.q (by omega), h3.heap h.l (by omega), h3.heap h.o (by omega), h.nam.kept h3 (fun k hk e => by have := h.ng; omega), h.ng, h.zlt, h.glt, fun k hk => h.vlt k (h2 k hk), h.kept.trans h3 (fun _ _ h => h)⟩

theorem GD.later {w W W' : World} {g : Nat} {v : Value} {xs : List Int} {z : Nat} {cs : Array Value} (h : GD w W g v xs z cs) (hb : Below W.heap.size W W') : GD w W' g v xs z cs := by
  have hk := Below.kept hb
  have hs := h.kept.size
  have hg := h.glt
  have hz := lt_of_block h.q
  have hl := lt_of_block h.l
  have ho := lt_of_block h.o
  exact ⟨h.r.kept hk (by omega) (fun k hk' => by have := h.vlt k hk'; omega), hk.heap h.q (by omega), hk.heap h.l (by omega), hk.heap h.o (by omega), h.nam.below hb h.nam.lt, h.ng, h.zlt, h.glt, h.vlt, h.kept.trans hk (fun k hk' e => by omega)⟩

theorem GD.set {w W : World} {g : Nat} {v : Value} {xs : List Int} {z : Nat} {cs : Array Value} (h : GD w W g v xs z cs) (j : Nat) (u : Value) : GD w (W.setCell ⟨z, j, none⟩ u) g v xs z (cs.setIfInBounds j u) := by
  have hz := h.zlt
  have hg := h.glt
  have hk : Kept W (W.setCell ⟨z, j, none⟩ u) (fun k => k = z) := (Kept.refl W (fun k => k = z)).setCell _ _ (fun _ => rfl)
  refine ⟨h.r.kept hk (by omega) (fun k hk' => by have := h.vlt k hk'; omega), ?_, hk.heap h.l (by omega), hk.heap h.o (by omega), h.nam.kept hk (fun k hk' e => by have := h.ng; omega), h.ng, h.zlt, h.glt, h.vlt, h.kept.trans hk (fun k hk' e => by omega)⟩
  rw [heap_setCell_same W z j _ _ _ h.q]

theorem GD.cell {w W : World} {g : Nat} {v : Value} {xs : List Int} {z : Nat} {cs : Array Value} (h : GD w W g v xs z cs) (j : Nat) : W.cell? ⟨z, j, none⟩ = cs[j]? := by
  rw [cell_of_row W z j _ _ _ h.q]
theorem GD.fr {w W : World} {g : Nat} {v : Value} {xs : List Int} {z : Nat} {cs : Array Value} (h : GD w W g v xs z cs) (j : Nat) : W.frozen? ⟨z, j, none⟩ = false := frozen_of_row W z j _ _ h.q
theorem GD.l0 {w W : World} {g : Nat} {v : Value} {xs : List Int} {z : Nat} {cs : Array Value} (h : GD w W g v xs z cs) : W.cell? ⟨w.heap.size, 0, none⟩ = some (.int .i8 8) ∧ W.cell? ⟨w.heap.size, 1, none⟩ = some (.int .u16 0) := by
  constructor <;> (rw [cell_of_row W _ _ _ _ _ h.l]; rfl)

/-- The bytes of works' request. -/
def wkB : List Int := [2, 0, 0, 0, 2, 47, 97, 255, 255, 255, 255, 0, 0, 0, 0, 0, 0, 0, 0, 0, 0, 0, 0]
def pathA : ByteArray := ⟨#[47, 97]⟩

theorem wk1 : rdNum 1 wkB 0 = ⟨2, wkB.drop 1, 0⟩ := by simp [rdNum, num, wkB]
theorem wk2 : rdBuf 64 (wkB.drop 1) 0 = ([47, 97], ⟨0, wkB.drop 7, 0⟩) := by simp [rdBuf, ahead, wrap32, num, wkB]
theorem wk3 : rdNum 4 (wkB.drop 7) 0 = ⟨4294967295, wkB.drop 11, 0⟩ := by simp [rdNum, num, wkB]
theorem wk4 : rdNum 8 (wkB.drop 11) 0 = ⟨0, wkB.drop 19, 0⟩ := by simp [rdNum, num, wkB]
theorem wk5 : ahead (wkB.drop 19) = 0 := by simp [ahead, wrap32, num, wkB]
theorem nms_del' : nms 8 0 2 = 329 := by decide
theorem wk0 : IntKind.i8.wrap 2 = 2 := by decide
theorem wk6 : down32 4294967295 = -1 := by rw [down32_is _ (by omega) (by omega)]; simp
theorem wk7 : wrap64 0 = 0 := by unfold wrap64; omega
theorem wkByts (k : Nat) : Byts (wkB.drop k) := Byts.drop (fun x hx => by have : wkB.all (fun x => decide (0 ≤ x ∧ x ≤ 255)) = true := by decide
                                                                          have := List.all_eq_true.1 this x hx
                                                                          simpa using this) k
theorem wkS : strOfNums [47, 97] = pathA := by decide

set_option maxHeartbeats 2000000 in
theorem get_works (g : Nat) (v : Value) (w : World) (h : IsR w g v wkB 0) (hn : Nam w) (hg : 0 < g) :
    Calls Tryd.prog 27 #[lay 8 0, .pointer (some ⟨g, 0, none⟩)] w fun e w' => e = .returned (.agg (rq0 2 pathA (-1) 0)) ∧ (∃ v', IsR w' g v' [] 0) ∧ Kept w w' (· = g) := by
  have a1 : bits .and .u16 329 1 = 1 := by decide
  have a2 : bits .and .u16 329 2 = 0 := by decide
  have a3 : bits .and .u16 329 4 = 0 := by decide
  have a4 : bits .and .u16 329 8 = 8 := by decide
  have a5 : bits .and .u16 329 16 = 0 := by decide
  have a6 : bits .and .u16 329 32 = 0 := by decide
  have a7 : bits .and .u16 329 64 = 64 := by decide
  have a8 : bits .and .u16 329 128 = 0 := by decide
  have a9 : bits .and .u16 329 256 = 256 := by decide
  have a10 : bits .and .u16 329 512 = 0 := by decide
  have HL : Hid (IsR w g v wkB 0 ∧ Nam w ∧ 0 < g) := ⟨h, hn, hg⟩
  clear h hn hg
  go_enter Tryd.func27, Tryd.ntmps27
  go_wp2_with fail
  have HR0 : Hid (IsR ((w.alloc (.cells #[.int .i8 8, .int .u16 0] 55)).alloc (.cells (rq0 0 ⟨#[]⟩ 0 0) 33)) g v wkB 0) := HL.out.1.kept (((Kept.refl w (fun _ => False)).alloc _).alloc _) (fun h => h) (fun _ _ h => h)
  have hgl : g < w.heap.size := lt_of_block HL.out.1.1
  refine (rInt8_any g v wkB 0 _ HR0.out (wkByts 0)).mono ?_
  rintro e w1 ⟨rfl, hr⟩
  rw [wk1] at hr ⊢
  simp only [wk0]
  obtain ⟨v1, hr1, hr2, hr3⟩ := hr
  have hvl : ∀ k, v.ownBlock = some k → k < w.heap.size := HL.out.1.2.lt (by simp [wkB])
  have HG1 : Hid (GD w (w1.alloc (.cells (rq0 2 ⟨#[]⟩ 0 0) 33)) g v1 (wkB.drop 1) w1.heap.size (rq0 2 ⟨#[]⟩ 0 0)) := by
    have hs := hr3.size
    simp at hs
    have hl1 : w1.heap[w.heap.size]? = some (.cells #[.int .i8 8, .int .u16 0] 55 (0, 0)) := hr3.heap (by rw [Below.heap_alloc _ _ _ (by simp)]; exact heap_alloc_new _ _) (by omega)
    have ho1 : w1.heap[w.heap.size + 1]? = some (.cells (rq0 0 ⟨#[]⟩ 0 0) 33 (0, 0)) := hr3.heap (by have := heap_alloc_new (w.alloc (.cells #[.int .i8 8, .int .u16 0] 55)) (.cells (rq0 0 ⟨#[]⟩ 0 0) 33 (0, 0)); simpa using this) (by omega)
    have hkw : Kept w w1 (· = g) := (((Kept.refl w (· = g)).alloc _).alloc _).trans hr3 (fun _ _ h => h)
    have hka := (Kept.refl w1 (fun _ => False)).alloc (.cells (rq0 2 ⟨#[]⟩ 0 0) 33)
    exact ⟨hr1.kept hka (fun h => h) (fun _ _ h => h), heap_alloc_new _ _, hka.heap hl1 (fun h => h), hka.heap ho1 (fun h => h), (HL.out.2.1.kept hkw (fun k hk e => by have := HL.out.2.2; omega)).kept hka (fun _ _ h => h), HL.out.2.2, by omega, hgl, fun k hk => hvl k (hr2 k hk), hkw.alloc _⟩
  clear hr1 hr2 hr3 HR0 hgl hvl
  obtain ⟨l0, l1⟩ := HG1.out.l0
  have c0 := HG1.out.cell 0
  simp at c0 l0 l1
  go_wp2_with fail
  refine (names_any 8 0 2 _ HG1.out.nam (by omega)).mono ?_
  rintro e w2 ⟨rfl, b2⟩
  rw [nms_del']
  have HG2 : Hid (GD w w2 g v1 (wkB.drop 1) w1.heap.size (rq0 2 ⟨#[]⟩ 0 0)) := HG1.out.later b2
  clear b2 HG1 l0 l1 c0
  go_wp2_with fail
  refine (rText_any g v1 _ 0 _ 64 HG2.out.r (wkByts 1)).mono ?_
  rintro e w3 ⟨rfl, hr⟩
  rw [wk2] at hr ⊢
  simp only [wkS]
  obtain ⟨v3, hg3⟩ := HG2.out.read hr
  have HG3 : Hid (GD w w3 g v3 (wkB.drop 7) w1.heap.size (rq0 2 ⟨#[]⟩ 0 0)) := hg3
  have f1 := hg3.fr 1
  have c1 := hg3.cell 1
  simp at c1
  clear hr hg3 HG2
  go_wp2_with fail
  have HG4 : Hid (GD w (w3.setCell ⟨w1.heap.size, 1, none⟩ (.string pathA)) g v3 (wkB.drop 7) w1.heap.size (rq0 2 pathA 0 0)) := HG3.out.set 1 (.string pathA)
  clear f1 c1 HG3
  refine (rInt32_any g v3 _ 0 _ HG4.out.r (wkByts 7)).mono ?_
  rintro e w4 ⟨rfl, hr⟩
  rw [wk3] at hr ⊢
  simp only [wk6]
  obtain ⟨v4, hg4⟩ := HG4.out.read hr
  have HG5 : Hid (GD w w4 g v4 (wkB.drop 11) w1.heap.size (rq0 2 pathA 0 0)) := hg4
  have f4 := hg4.fr 4
  have c4 := hg4.cell 4
  simp at c4
  clear hr hg4 HG4
  go_wp2_with fail
  have HG6 : Hid (GD w (w4.setCell ⟨w1.heap.size, 4, none⟩ (.int .i32 (-1))) g v4 (wkB.drop 11) w1.heap.size (rq0 2 pathA (-1) 0)) := HG5.out.set 4 (.int .i32 (-1))
  clear f4 c4 HG5
  refine (rInt64_any g v4 _ 0 _ HG6.out.r (wkByts 11)).mono ?_
  rintro e w5 ⟨rfl, hr⟩
  rw [wk4] at hr ⊢
  simp only [wk7]
  obtain ⟨v5, hg5⟩ := HG6.out.read hr
  have HG7 : Hid (GD w w5 g v5 (wkB.drop 19) w1.heap.size (rq0 2 pathA (-1) 0)) := hg5
  have f7 := hg5.fr 7
  have c7 := hg5.cell 7
  have HG8 : Hid (GD w (w5.setCell ⟨w1.heap.size, 7, none⟩ (.int .i64 0)) g v5 (wkB.drop 19) w1.heap.size (rq0 2 pathA (-1) 0)) := hg5.set 7 (.int .i64 0)
  obtain ⟨l0, l1⟩ := HG8.out.l0
  simp at c7
  clear hr hg5 HG6 HG7
  go_wp2_with fail
  clear c7 f7
  refine (getListI_zero _ g v5 _ 4 _ HG8.out.r (wkByts 19) (by simp [wkB]) wk5 (by omega)).mono ?_
  rintro e w6 ⟨rfl, hr⟩
  obtain ⟨v6, hg6⟩ := HG8.out.read hr
  have f9 := hg6.fr 9
  have c0 : w6.cell? ⟨w1.heap.size, 0, none⟩ = some (.int .i8 2) := hg6.cell 0
  have c1 : w6.cell? ⟨w1.heap.size, 1, none⟩ = some (.string pathA) := hg6.cell 1
  have c2 : w6.cell? ⟨w1.heap.size, 2, none⟩ = some (.slice none 0 0) := hg6.cell 2
  have c3 : w6.cell? ⟨w1.heap.size, 3, none⟩ = some (.slice none 0 0) := hg6.cell 3
  have c4 : w6.cell? ⟨w1.heap.size, 4, none⟩ = some (.int .i32 (-1)) := hg6.cell 4
  have c5 : w6.cell? ⟨w1.heap.size, 5, none⟩ = some (.bool false) := hg6.cell 5
  have c6 : w6.cell? ⟨w1.heap.size, 6, none⟩ = some (.bool false) := hg6.cell 6
  have c7 : w6.cell? ⟨w1.heap.size, 7, none⟩ = some (.int .i64 0) := hg6.cell 7
  have c8 : w6.cell? ⟨w1.heap.size, 8, none⟩ = some (.int .i32 0) := hg6.cell 8
  have c9 : w6.cell? ⟨w1.heap.size, 9, none⟩ = some (.slice none 0 0) := hg6.cell 9
  have c10 : w6.cell? ⟨w1.heap.size, 10, none⟩ = some (.slice none 0 0) := hg6.cell 10
  have hne : w1.heap.size ≠ w.heap.size + 1 := by have := hg6.zlt; omega
  have hne' : w.heap.size + 1 ≠ w1.heap.size := fun e => hne e.symm
  have o0 : w6.cell? ⟨w.heap.size + 1, 0, none⟩ = some (.int .i8 0) := by rw [cell_of_row w6 _ 0 _ _ _ hg6.o]; rfl
  have o1 : w6.cell? ⟨w.heap.size + 1, 1, none⟩ = some (.string ⟨#[]⟩) := by rw [cell_of_row w6 _ 1 _ _ _ hg6.o]; rfl
  have o2 : w6.cell? ⟨w.heap.size + 1, 2, none⟩ = some (.slice none 0 0) := by rw [cell_of_row w6 _ 2 _ _ _ hg6.o]; rfl
  have o3 : w6.cell? ⟨w.heap.size + 1, 3, none⟩ = some (.slice none 0 0) := by rw [cell_of_row w6 _ 3 _ _ _ hg6.o]; rfl
  have o4 : w6.cell? ⟨w.heap.size + 1, 4, none⟩ = some (.int .i32 0) := by rw [cell_of_row w6 _ 4 _ _ _ hg6.o]; rfl
  have o5 : w6.cell? ⟨w.heap.size + 1, 5, none⟩ = some (.bool false) := by rw [cell_of_row w6 _ 5 _ _ _ hg6.o]; rfl
  have o6 : w6.cell? ⟨w.heap.size + 1, 6, none⟩ = some (.bool false) := by rw [cell_of_row w6 _ 6 _ _ _ hg6.o]; rfl
  have o7 : w6.cell? ⟨w.heap.size + 1, 7, none⟩ = some (.int .i64 0) := by rw [cell_of_row w6 _ 7 _ _ _ hg6.o]; rfl
  have o8 : w6.cell? ⟨w.heap.size + 1, 8, none⟩ = some (.int .i32 0) := by rw [cell_of_row w6 _ 8 _ _ _ hg6.o]; rfl
  have o9 : w6.cell? ⟨w.heap.size + 1, 9, none⟩ = some (.slice none 0 0) := by rw [cell_of_row w6 _ 9 _ _ _ hg6.o]; rfl
  have o10 : w6.cell? ⟨w.heap.size + 1, 10, none⟩ = some (.slice none 0 0) := by rw [cell_of_row w6 _ 10 _ _ _ hg6.o]; rfl
  have p0 : w6.frozen? ⟨w.heap.size + 1, 0, none⟩ = false := frozen_of_row w6 _ 0 _ _ hg6.o
  have p1 : w6.frozen? ⟨w.heap.size + 1, 1, none⟩ = false := frozen_of_row w6 _ 1 _ _ hg6.o
  have p2 : w6.frozen? ⟨w.heap.size + 1, 2, none⟩ = false := frozen_of_row w6 _ 2 _ _ hg6.o
  have p3 : w6.frozen? ⟨w.heap.size + 1, 3, none⟩ = false := frozen_of_row w6 _ 3 _ _ hg6.o
  have p4 : w6.frozen? ⟨w.heap.size + 1, 4, none⟩ = false := frozen_of_row w6 _ 4 _ _ hg6.o
  have p5 : w6.frozen? ⟨w.heap.size + 1, 5, none⟩ = false := frozen_of_row w6 _ 5 _ _ hg6.o
  have p6 : w6.frozen? ⟨w.heap.size + 1, 6, none⟩ = false := frozen_of_row w6 _ 6 _ _ hg6.o
  have p7 : w6.frozen? ⟨w.heap.size + 1, 7, none⟩ = false := frozen_of_row w6 _ 7 _ _ hg6.o
  have p8 : w6.frozen? ⟨w.heap.size + 1, 8, none⟩ = false := frozen_of_row w6 _ 8 _ _ hg6.o
  have p9 : w6.frozen? ⟨w.heap.size + 1, 9, none⟩ = false := frozen_of_row w6 _ 9 _ _ hg6.o
  have p10 : w6.frozen? ⟨w.heap.size + 1, 10, none⟩ = false := frozen_of_row w6 _ 10 _ _ hg6.o
  have HG9 : Hid (GD w (w6.setCell ⟨w1.heap.size, 9, none⟩ (.slice none 0 0)) g v6 ((wkB.drop 19).drop 4) w1.heap.size (rq0 2 pathA (-1) 0)) := hg6.set 9 (.slice none 0 0)
  clear hr hg6 HG8 l0 l1
  go_wp2_with fail
  obtain ⟨hrow, hk⟩ := stored11 (.int .i8 2) (.string pathA) (.slice none 0 0) (.slice none 0 0) (.int .i32 (-1)) (.bool false) (.bool false) (.int .i64 0) (.int .i32 0) (.slice none 0 0) (.slice none 0 0) HG9.out.o
  have hg := HG9.out.glt
  have hr' := HG9.out.r.kept hk (by omega) (fun k hk' => by have := HG9.out.vlt k hk'; omega)
  have hk' := HG9.out.kept.trans hk (fun k hk e => by omega)
  rw [show (wkB.drop 19).drop 4 = [] from rfl] at hr'
  refine bodyPost_ret (v := .agg (rq0 2 pathA (-1) 0)) ?_ rfl ⟨rfl, ⟨v6, hr'⟩, hk'⟩
  have hld := run_loadVar_row (P := Tryd.prog) _ _ _ 33 _ _ _ hrow Tryd.underlying33 rfl rq_size
  rw [resCell1 Tryd.results27]
  show ((asAddr (.pointer (some ⟨w.heap.size + 1, 0, none⟩))).run Tryd.prog _).andThen _ = _
  simp only [asAddr, Sem.run_pure, Result.andThen_ok, hld]
end Go.Proofs.YtgaepncccfipeaaDoor
