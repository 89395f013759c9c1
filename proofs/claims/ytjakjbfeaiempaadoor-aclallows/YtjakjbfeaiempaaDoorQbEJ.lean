/- What acl.firstBits answers: an address whose bits behind the first so many are 0. -/
import Derived.Test.YtjakjbfeaiempaaDoorQbDJ
import Derived.Laws.BitsAllLaws
namespace Go.Proofs.YtjakjbfeaiempaaDoor
open Go.RowKit Go.Shelf
set_option maxRecDepth 8000

/-- A byte whose bits behind the first j are 0. -/
def mk (j x : Nat) : Nat := x / 2 ^ (8 - j) * 2 ^ (8 - j)

theorem mk_and : ∀ (j : Fin 9) (x : Fin 256), x.1 &&& (255 * 2 ^ (8 - j.1) % 256) = mk j.1 x.1 := by decide +kernel

theorem mk_bits {j x m : Nat} (hx : x ≤ 255) (hj : j ≤ 8) (hm : m = 255 * 2 ^ (8 - j) % 256) : bits .and .u8 (x : Int) (m : Int) = ((mk j x : Nat) : Int) := by
  rw [u8_and_nat x m (by omega) (by rw [hm]; exact Nat.mod_lt _ (by decide)), hm]
  exact congrArg _ (mk_and ⟨j, by omega⟩ ⟨x, by omega⟩)

theorem mk_le {j x : Nat} (hx : x ≤ 255) : mk j x ≤ 255 := by
  have : x / 2 ^ (8 - j) * 2 ^ (8 - j) ≤ x := Nat.div_mul_le_self _ _
  unfold mk
  omega

/-- The four bytes behind k rounds. -/
def fbs (n k : Nat) (a b c d : Nat) : List Nat := [if 0 < k then mk (cnt n 0) a else a, if 1 < k then mk (cnt n 1) b else b, if 2 < k then mk (cnt n 2) c else c, if 3 < k then mk (cnt n 3) d else d]

theorem results_fb (tm : Array Value) (n : Nat) (WW : World) {a b c e : Value} (h2 : tm.getD 4 undef = .pointer (some ⟨n, 0, none⟩))
    (m0 : WW.cell? ⟨n, 0, none⟩ = some a) (m1 : WW.cell? ⟨n, 1, none⟩ = some b) (m2 : WW.cell? ⟨n, 2, none⟩ = some c) (m3 : WW.cell? ⟨n, 3, none⟩ = some e) :
    (results Tryd.f79 tm).run Tryd.prog WW = .ok (.agg #[a, b, c, e]) WW := by
  have hres : Tryd.f79.results = #[.cell 4 88] := by kernel_rfl
  have h2' : tm[4]?.getD undef = .pointer (some ⟨n, 0, none⟩) := by rw [← Array.getD_eq_getD_getElem?]; exact h2
  simp only [results, hres]
  go_simp

set_option maxHeartbeats 4000000 in
theorem firstBits_any (a b c d n : Nat) (hn : n ≤ 32) (ha : a ≤ 255) (hb : b ≤ 255) (hc : c ≤ 255) (hd : d ≤ 255) (w : World) :
    Calls Tryd.prog 79 #[.agg #[u8V a, u8V b, u8V c, u8V d], .int .i64 (n : Int)] w fun e w' => e = .returned (.agg #[u8V (mk (cnt n 0) a), u8V (mk (cnt n 1) b), u8V (mk (cnt n 2) c), u8V (mk (cnt n 3) d)]) ∧ Below w.heap.size w w' := by
  have s0 : (w.alloc (.cells #[u8V a, u8V b, u8V c, u8V d] 88)).heap.size = w.heap.size + 1 := by simp
  have r0 : ((w.alloc (.cells #[u8V a, u8V b, u8V c, u8V d] 88)).alloc (.cells zero4 88)).heap[w.heap.size]? = some (.cells #[u8V a, u8V b, u8V c, u8V d] 88 (0, 0)) := by
    rw [Below.heap_alloc _ _ _ (by rw [s0]; omega)]; exact heap_alloc_new _ _
  have r1 : ((w.alloc (.cells #[u8V a, u8V b, u8V c, u8V d] 88)).alloc (.cells zero4 88)).heap[w.heap.size + 1]? = some (.cells zero4 88 (0, 0)) := alloc_newq s0.symm
  have B0 : Below w.heap.size w ((w.alloc (.cells #[u8V a, u8V b, u8V c, u8V d] 88)).alloc (.cells zero4 88)) := ((Below.refl _ w).alloc (Nat.le_refl _) _).alloc (by rw [s0]; omega) _
  have HR : Hid _ := And.intro r0 (And.intro r1 B0)
  clear s0 r0 r1 B0
  go_enter Tryd.func79, Tryd.ntmps79
  go_wp2
  go_loopw [7] (fun vi wr => ∃ (k : Nat), k ≤ 4 ∧ vi = .int .i64 (k : Int) ∧ Hid (∃ x0 x1 x2 x3, wr.heap[w.heap.size]? = some (.cells #[u8V x0, u8V x1, u8V x2, u8V x3] 88 (0, 0)) ∧ [x0, x1, x2, x3] = fbs n k a b c d) ∧ Hid (wr.heap[w.heap.size + 1]? = some (.cells zero4 88 (0, 0)) ∧ Below w.heap.size w wr)) (fun vi _ => 4 - (intOf vi).toNat)
  case atStart => exact ⟨0, by omega, rfl, ⟨a, b, c, d, HR.out.1, rfl⟩, HR.out.2⟩
  case round =>
    obtain ⟨k, hk, rfl, ⟨x0, x1, x2, x3, hb0, hfb⟩, HB⟩ := hrel
    obtain ⟨⟨y0, y1, y2, y3⟩, f0, f1, f2, f3⟩ := cells4 hb0
    have HH : Hid (wr.heap[w.heap.size]? = some (.cells #[u8V x0, u8V x1, u8V x2, u8V x3] 88 (0, 0)) ∧ [x0, x1, x2, x3] = fbs n k a b c d) := ⟨hb0, hfb⟩
    clear hb0 hfb
    have hk4 : k = 0 ∨ k = 1 ∨ k = 2 ∨ k = 3 ∨ k = 4 := by omega
    rcases hk4 with rfl | rfl | rfl | rfl | rfl
    · have hxb : x0 ≤ 255 := by
        have e := HH.out.2
        simp [fbs] at e
        omega
      by_cases h8 : 8 < n
      · have HJ : Hid (cnt n 0 = 8) := by show _ = _; unfold cnt; omega
        have hm : bits .and .u8 (x0 : Int) 255 = ((mk 8 x0 : Nat) : Int) := mk_bits (m := 255) hxb (by omega) (by decide)
        have hml : mk 8 x0 ≤ 255 := mk_le hxb
        have HN : Hid ((wr.setCell ⟨w.heap.size, 0, none⟩ (u8V (mk 8 x0))).heap[w.heap.size]? = some (.cells #[u8V (mk 8 x0), u8V (x1), u8V (x2), u8V (x3)] 88 (0, 0)) ∧ [mk 8 x0, x1, x2, x3] = fbs n 1 a b c d) := by
          refine ⟨heap_setq _ HH.out.1, ?_⟩
          have e := HH.out.2
          simp [fbs, HJ.out] at e ⊢
          simp [e]
        have HB2 : Hid ((wr.setCell ⟨w.heap.size, 0, none⟩ (u8V (mk 8 x0))).heap[w.heap.size + 1]? = some (.cells zero4 88 (0, 0)) ∧ Below w.heap.size w (wr.setCell ⟨w.heap.size, 0, none⟩ (u8V (mk 8 x0)))) := ⟨by rw [Below.heap_setCell _ _ _ _ (by show w.heap.size + 1 ≠ w.heap.size; omega)]; exact HB.out.1, HB.out.2.setCell (p := ⟨w.heap.size, 0, none⟩) (Nat.le_refl _) _⟩
        clear hxb
        generalize mk 8 x0 = z at *
        go_wp2
        go_region
        go_wp2
        go_roundw
        case rel => exact ⟨1, by omega, rfl, ⟨z, x1, x2, x3, HN.out⟩, HB2.out.1, HB2.out.2.trans ⟨rfl, rfl, rfl, Nat.le_refl _, fun _ _ => rfl⟩⟩
        case measure => simp [intOf]
      · have hj : n = 0 ∨ n = 1 ∨ n = 2 ∨ n = 3 ∨ n = 4 ∨ n = 5 ∨ n = 6 ∨ n = 7 ∨ n = 8 := by omega
        rcases hj with hj | hj | hj | hj | hj | hj | hj | hj | hj
        · have HJ : Hid (cnt n 0 = 0) := by show _ = _; unfold cnt; omega
          have hm : bits .and .u8 (x0 : Int) 0 = ((mk 0 x0 : Nat) : Int) := mk_bits (m := 0) hxb (by omega) (by decide)
          have hml : mk 0 x0 ≤ 255 := mk_le hxb
          have HN : Hid ((wr.setCell ⟨w.heap.size, 0, none⟩ (u8V (mk 0 x0))).heap[w.heap.size]? = some (.cells #[u8V (mk 0 x0), u8V (x1), u8V (x2), u8V (x3)] 88 (0, 0)) ∧ [mk 0 x0, x1, x2, x3] = fbs n 1 a b c d) := by
            refine ⟨heap_setq _ HH.out.1, ?_⟩
            have e := HH.out.2
            simp [fbs, HJ.out] at e ⊢
            simp [e]
          have HB2 : Hid ((wr.setCell ⟨w.heap.size, 0, none⟩ (u8V (mk 0 x0))).heap[w.heap.size + 1]? = some (.cells zero4 88 (0, 0)) ∧ Below w.heap.size w (wr.setCell ⟨w.heap.size, 0, none⟩ (u8V (mk 0 x0)))) := ⟨by rw [Below.heap_setCell _ _ _ _ (by show w.heap.size + 1 ≠ w.heap.size; omega)]; exact HB.out.1, HB.out.2.setCell (p := ⟨w.heap.size, 0, none⟩) (Nat.le_refl _) _⟩
          clear hxb
          generalize mk 0 x0 = z at *
          have hN : (n : Int) = 0 := by omega
          clear hj hn
          go_wp2
          go_region
          go_wp2
          go_roundw
          case rel => exact ⟨1, by omega, rfl, ⟨z, x1, x2, x3, HN.out⟩, HB2.out.1, HB2.out.2.trans ⟨rfl, rfl, rfl, Nat.le_refl _, fun _ _ => rfl⟩⟩
          case measure => simp [intOf]
        · have HJ : Hid (cnt n 0 = 1) := by show _ = _; unfold cnt; omega
          have hm : bits .and .u8 (x0 : Int) 128 = ((mk 1 x0 : Nat) : Int) := mk_bits (m := 128) hxb (by omega) (by decide)
          have hml : mk 1 x0 ≤ 255 := mk_le hxb
          have HN : Hid ((wr.setCell ⟨w.heap.size, 0, none⟩ (u8V (mk 1 x0))).heap[w.heap.size]? = some (.cells #[u8V (mk 1 x0), u8V (x1), u8V (x2), u8V (x3)] 88 (0, 0)) ∧ [mk 1 x0, x1, x2, x3] = fbs n 1 a b c d) := by
            refine ⟨heap_setq _ HH.out.1, ?_⟩
            have e := HH.out.2
            simp [fbs, HJ.out] at e ⊢
            simp [e]
          have HB2 : Hid ((wr.setCell ⟨w.heap.size, 0, none⟩ (u8V (mk 1 x0))).heap[w.heap.size + 1]? = some (.cells zero4 88 (0, 0)) ∧ Below w.heap.size w (wr.setCell ⟨w.heap.size, 0, none⟩ (u8V (mk 1 x0)))) := ⟨by rw [Below.heap_setCell _ _ _ _ (by show w.heap.size + 1 ≠ w.heap.size; omega)]; exact HB.out.1, HB.out.2.setCell (p := ⟨w.heap.size, 0, none⟩) (Nat.le_refl _) _⟩
          clear hxb
          generalize mk 1 x0 = z at *
          have hN : (n : Int) = 1 := by omega
          clear hj hn
          go_wp2
          go_region
          go_wp2
          go_roundw
          case rel => exact ⟨1, by omega, rfl, ⟨z, x1, x2, x3, HN.out⟩, HB2.out.1, HB2.out.2.trans ⟨rfl, rfl, rfl, Nat.le_refl _, fun _ _ => rfl⟩⟩
          case measure => simp [intOf]
        · have HJ : Hid (cnt n 0 = 2) := by show _ = _; unfold cnt; omega
          have hm : bits .and .u8 (x0 : Int) 192 = ((mk 2 x0 : Nat) : Int) := mk_bits (m := 192) hxb (by omega) (by decide)
          have hml : mk 2 x0 ≤ 255 := mk_le hxb
          have HN : Hid ((wr.setCell ⟨w.heap.size, 0, none⟩ (u8V (mk 2 x0))).heap[w.heap.size]? = some (.cells #[u8V (mk 2 x0), u8V (x1), u8V (x2), u8V (x3)] 88 (0, 0)) ∧ [mk 2 x0, x1, x2, x3] = fbs n 1 a b c d) := by
            refine ⟨heap_setq _ HH.out.1, ?_⟩
            have e := HH.out.2
            simp [fbs, HJ.out] at e ⊢
            simp [e]
          have HB2 : Hid ((wr.setCell ⟨w.heap.size, 0, none⟩ (u8V (mk 2 x0))).heap[w.heap.size + 1]? = some (.cells zero4 88 (0, 0)) ∧ Below w.heap.size w (wr.setCell ⟨w.heap.size, 0, none⟩ (u8V (mk 2 x0)))) := ⟨by rw [Below.heap_setCell _ _ _ _ (by show w.heap.size + 1 ≠ w.heap.size; omega)]; exact HB.out.1, HB.out.2.setCell (p := ⟨w.heap.size, 0, none⟩) (Nat.le_refl _) _⟩
          clear hxb
          generalize mk 2 x0 = z at *
          have hN : (n : Int) = 2 := by omega
          clear hj hn
          go_wp2
          go_region
          go_wp2
          go_roundw
          case rel => exact ⟨1, by omega, rfl, ⟨z, x1, x2, x3, HN.out⟩, HB2.out.1, HB2.out.2.trans ⟨rfl, rfl, rfl, Nat.le_refl _, fun _ _ => rfl⟩⟩
          case measure => simp [intOf]
        · have HJ : Hid (cnt n 0 = 3) := by show _ = _; unfold cnt; omega
          have hm : bits .and .u8 (x0 : Int) 224 = ((mk 3 x0 : Nat) : Int) := mk_bits (m := 224) hxb (by omega) (by decide)
          have hml : mk 3 x0 ≤ 255 := mk_le hxb
          have HN : Hid ((wr.setCell ⟨w.heap.size, 0, none⟩ (u8V (mk 3 x0))).heap[w.heap.size]? = some (.cells #[u8V (mk 3 x0), u8V (x1), u8V (x2), u8V (x3)] 88 (0, 0)) ∧ [mk 3 x0, x1, x2, x3] = fbs n 1 a b c d) := by
            refine ⟨heap_setq _ HH.out.1, ?_⟩
            have e := HH.out.2
            simp [fbs, HJ.out] at e ⊢
            simp [e]
          have HB2 : Hid ((wr.setCell ⟨w.heap.size, 0, none⟩ (u8V (mk 3 x0))).heap[w.heap.size + 1]? = some (.cells zero4 88 (0, 0)) ∧ Below w.heap.size w (wr.setCell ⟨w.heap.size, 0, none⟩ (u8V (mk 3 x0)))) := ⟨by rw [Below.heap_setCell _ _ _ _ (by show w.heap.size + 1 ≠ w.heap.size; omega)]; exact HB.out.1, HB.out.2.setCell (p := ⟨w.heap.size, 0, none⟩) (Nat.le_refl _) _⟩
          clear hxb
          generalize mk 3 x0 = z at *
          have hN : (n : Int) = 3 := by omega
          clear hj hn
          go_wp2
          go_region
          go_wp2
          go_roundw
          case rel => exact ⟨1, by omega, rfl, ⟨z, x1, x2, x3, HN.out⟩, HB2.out.1, HB2.out.2.trans ⟨rfl, rfl, rfl, Nat.le_refl _, fun _ _ => rfl⟩⟩
          case measure => simp [intOf]
        · have HJ : Hid (cnt n 0 = 4) := by show _ = _; unfold cnt; omega
          have hm : bits .and .u8 (x0 : Int) 240 = ((mk 4 x0 : Nat) : Int) := mk_bits (m := 240) hxb (by omega) (by decide)
          have hml : mk 4 x0 ≤ 255 := mk_le hxb
          have HN : Hid ((wr.setCell ⟨w.heap.size, 0, none⟩ (u8V (mk 4 x0))).heap[w.heap.size]? = some (.cells #[u8V (mk 4 x0), u8V (x1), u8V (x2), u8V (x3)] 88 (0, 0)) ∧ [mk 4 x0, x1, x2, x3] = fbs n 1 a b c d) := by
            refine ⟨heap_setq _ HH.out.1, ?_⟩
            have e := HH.out.2
            simp [fbs, HJ.out] at e ⊢
            simp [e]
          have HB2 : Hid ((wr.setCell ⟨w.heap.size, 0, none⟩ (u8V (mk 4 x0))).heap[w.heap.size + 1]? = some (.cells zero4 88 (0, 0)) ∧ Below w.heap.size w (wr.setCell ⟨w.heap.size, 0, none⟩ (u8V (mk 4 x0)))) := ⟨by rw [Below.heap_setCell _ _ _ _ (by show w.heap.size + 1 ≠ w.heap.size; omega)]; exact HB.out.1, HB.out.2.setCell (p := ⟨w.heap.size, 0, none⟩) (Nat.le_refl _) _⟩
          clear hxb
          generalize mk 4 x0 = z at *
          have hN : (n : Int) = 4 := by omega
          clear hj hn
          go_wp2
          go_region
          go_wp2
          go_roundw
          case rel => exact ⟨1, by omega, rfl, ⟨z, x1, x2, x3, HN.out⟩, HB2.out.1, HB2.out.2.trans ⟨rfl, rfl, rfl, Nat.le_refl _, fun _ _ => rfl⟩⟩
          case measure => simp [intOf]
        · have HJ : Hid (cnt n 0 = 5) := by show _ = _; unfold cnt; omega
          have hm : bits .and .u8 (x0 : Int) 248 = ((mk 5 x0 : Nat) : Int) := mk_bits (m := 248) hxb (by omega) (by decide)
          have hml : mk 5 x0 ≤ 255 := mk_le hxb
          have HN : Hid ((wr.setCell ⟨w.heap.size, 0, none⟩ (u8V (mk 5 x0))).heap[w.heap.size]? = some (.cells #[u8V (mk 5 x0), u8V (x1), u8V (x2), u8V (x3)] 88 (0, 0)) ∧ [mk 5 x0, x1, x2, x3] = fbs n 1 a b c d) := by
            refine ⟨heap_setq _ HH.out.1, ?_⟩
            have e := HH.out.2
            simp [fbs, HJ.out] at e ⊢
            simp [e]
          have HB2 : Hid ((wr.setCell ⟨w.heap.size, 0, none⟩ (u8V (mk 5 x0))).heap[w.heap.size + 1]? = some (.cells zero4 88 (0, 0)) ∧ Below w.heap.size w (wr.setCell ⟨w.heap.size, 0, none⟩ (u8V (mk 5 x0)))) := ⟨by rw [Below.heap_setCell _ _ _ _ (by show w.heap.size + 1 ≠ w.heap.size; omega)]; exact HB.out.1, HB.out.2.setCell (p := ⟨w.heap.size, 0, none⟩) (Nat.le_refl _) _⟩
          clear hxb
          generalize mk 5 x0 = z at *
          have hN : (n : Int) = 5 := by omega
          clear hj hn
          go_wp2
          go_region
          go_wp2
          go_roundw
          case rel => exact ⟨1, by omega, rfl, ⟨z, x1, x2, x3, HN.out⟩, HB2.out.1, HB2.out.2.trans ⟨rfl, rfl, rfl, Nat.le_refl _, fun _ _ => rfl⟩⟩
          case measure => simp [intOf]
        · have HJ : Hid (cnt n 0 = 6) := by show _ = _; unfold cnt; omega
          have hm : bits .and .u8 (x0 : Int) 252 = ((mk 6 x0 : Nat) : Int) := mk_bits (m := 252) hxb (by omega) (by decide)
          have hml : mk 6 x0 ≤ 255 := mk_le hxb
          have HN : Hid ((wr.setCell ⟨w.heap.size, 0, none⟩ (u8V (mk 6 x0))).heap[w.heap.size]? = some (.cells #[u8V (mk 6 x0), u8V (x1), u8V (x2), u8V (x3)] 88 (0, 0)) ∧ [mk 6 x0, x1, x2, x3] = fbs n 1 a b c d) := by
            refine ⟨heap_setq _ HH.out.1, ?_⟩
            have e := HH.out.2
            simp [fbs, HJ.out] at e ⊢
            simp [e]
          have HB2 : Hid ((wr.setCell ⟨w.heap.size, 0, none⟩ (u8V (mk 6 x0))).heap[w.heap.size + 1]? = some (.cells zero4 88 (0, 0)) ∧ Below w.heap.size w (wr.setCell ⟨w.heap.size, 0, none⟩ (u8V (mk 6 x0)))) := ⟨by rw [Below.heap_setCell _ _ _ _ (by show w.heap.size + 1 ≠ w.heap.size; omega)]; exact HB.out.1, HB.out.2.setCell (p := ⟨w.heap.size, 0, none⟩) (Nat.le_refl _) _⟩
          clear hxb
          generalize mk 6 x0 = z at *
          have hN : (n : Int) = 6 := by omega
          clear hj hn
          go_wp2
          go_region
          go_wp2
          go_roundw
          case rel => exact ⟨1, by omega, rfl, ⟨z, x1, x2, x3, HN.out⟩, HB2.out.1, HB2.out.2.trans ⟨rfl, rfl, rfl, Nat.le_refl _, fun _ _ => rfl⟩⟩
          case measure => simp [intOf]
        · have HJ : Hid (cnt n 0 = 7) := by show _ = _; unfold cnt; omega
          have hm : bits .and .u8 (x0 : Int) 254 = ((mk 7 x0 : Nat) : Int) := mk_bits (m := 254) hxb (by omega) (by decide)
          have hml : mk 7 x0 ≤ 255 := mk_le hxb
          have HN : Hid ((wr.setCell ⟨w.heap.size, 0, none⟩ (u8V (mk 7 x0))).heap[w.heap.size]? = some (.cells #[u8V (mk 7 x0), u8V (x1), u8V (x2), u8V (x3)] 88 (0, 0)) ∧ [mk 7 x0, x1, x2, x3] = fbs n 1 a b c d) := by
            refine ⟨heap_setq _ HH.out.1, ?_⟩
            have e := HH.out.2
            simp [fbs, HJ.out] at e ⊢
            simp [e]
          have HB2 : Hid ((wr.setCell ⟨w.heap.size, 0, none⟩ (u8V (mk 7 x0))).heap[w.heap.size + 1]? = some (.cells zero4 88 (0, 0)) ∧ Below w.heap.size w (wr.setCell ⟨w.heap.size, 0, none⟩ (u8V (mk 7 x0)))) := ⟨by rw [Below.heap_setCell _ _ _ _ (by show w.heap.size + 1 ≠ w.heap.size; omega)]; exact HB.out.1, HB.out.2.setCell (p := ⟨w.heap.size, 0, none⟩) (Nat.le_refl _) _⟩
          clear hxb
          generalize mk 7 x0 = z at *
          have hN : (n : Int) = 7 := by omega
          clear hj hn
          go_wp2
          go_region
          go_wp2
          go_roundw
          case rel => exact ⟨1, by omega, rfl, ⟨z, x1, x2, x3, HN.out⟩, HB2.out.1, HB2.out.2.trans ⟨rfl, rfl, rfl, Nat.le_refl _, fun _ _ => rfl⟩⟩
          case measure => simp [intOf]
        · have HJ : Hid (cnt n 0 = 8) := by show _ = _; unfold cnt; omega
          have hm : bits .and .u8 (x0 : Int) 255 = ((mk 8 x0 : Nat) : Int) := mk_bits (m := 255) hxb (by omega) (by decide)
          have hml : mk 8 x0 ≤ 255 := mk_le hxb
          have HN : Hid ((wr.setCell ⟨w.heap.size, 0, none⟩ (u8V (mk 8 x0))).heap[w.heap.size]? = some (.cells #[u8V (mk 8 x0), u8V (x1), u8V (x2), u8V (x3)] 88 (0, 0)) ∧ [mk 8 x0, x1, x2, x3] = fbs n 1 a b c d) := by
            refine ⟨heap_setq _ HH.out.1, ?_⟩
            have e := HH.out.2
            simp [fbs, HJ.out] at e ⊢
            simp [e]
          have HB2 : Hid ((wr.setCell ⟨w.heap.size, 0, none⟩ (u8V (mk 8 x0))).heap[w.heap.size + 1]? = some (.cells zero4 88 (0, 0)) ∧ Below w.heap.size w (wr.setCell ⟨w.heap.size, 0, none⟩ (u8V (mk 8 x0)))) := ⟨by rw [Below.heap_setCell _ _ _ _ (by show w.heap.size + 1 ≠ w.heap.size; omega)]; exact HB.out.1, HB.out.2.setCell (p := ⟨w.heap.size, 0, none⟩) (Nat.le_refl _) _⟩
          clear hxb
          generalize mk 8 x0 = z at *
          have hN : (n : Int) = 8 := by omega
          clear hj hn
          go_wp2
          go_region
          go_wp2
          go_roundw
          case rel => exact ⟨1, by omega, rfl, ⟨z, x1, x2, x3, HN.out⟩, HB2.out.1, HB2.out.2.trans ⟨rfl, rfl, rfl, Nat.le_refl _, fun _ _ => rfl⟩⟩
          case measure => simp [intOf]
    · have hxb : x1 ≤ 255 := by
        have e := HH.out.2
        simp [fbs] at e
        omega
      by_cases h0 : n < 8
      · have HJ : Hid (cnt n 1 = 0) := by show _ = _; unfold cnt; omega
        have hm : bits .and .u8 (x1 : Int) 0 = ((mk 0 x1 : Nat) : Int) := mk_bits (m := 0) hxb (by omega) (by decide)
        have hml : mk 0 x1 ≤ 255 := mk_le hxb
        have HN : Hid ((wr.setCell ⟨w.heap.size, 1, none⟩ (u8V (mk 0 x1))).heap[w.heap.size]? = some (.cells #[u8V (x0), u8V (mk 0 x1), u8V (x2), u8V (x3)] 88 (0, 0)) ∧ [x0, mk 0 x1, x2, x3] = fbs n 2 a b c d) := by
          refine ⟨heap_setq _ HH.out.1, ?_⟩
          have e := HH.out.2
          simp [fbs, HJ.out] at e ⊢
          simp [e]
        have HB2 : Hid ((wr.setCell ⟨w.heap.size, 1, none⟩ (u8V (mk 0 x1))).heap[w.heap.size + 1]? = some (.cells zero4 88 (0, 0)) ∧ Below w.heap.size w (wr.setCell ⟨w.heap.size, 1, none⟩ (u8V (mk 0 x1)))) := ⟨by rw [Below.heap_setCell _ _ _ _ (by show w.heap.size + 1 ≠ w.heap.size; omega)]; exact HB.out.1, HB.out.2.setCell (p := ⟨w.heap.size, 1, none⟩) (Nat.le_refl _) _⟩
        clear hxb
        generalize mk 0 x1 = z at *
        go_wp2
        go_region
        go_wp2
        go_roundw
        case rel => exact ⟨2, by omega, rfl, ⟨x0, z, x2, x3, HN.out⟩, HB2.out.1, HB2.out.2.trans ⟨rfl, rfl, rfl, Nat.le_refl _, fun _ _ => rfl⟩⟩
        case measure => simp [intOf]
      · by_cases h8 : 16 < n
        · have HJ : Hid (cnt n 1 = 8) := by show _ = _; unfold cnt; omega
          have hm : bits .and .u8 (x1 : Int) 255 = ((mk 8 x1 : Nat) : Int) := mk_bits (m := 255) hxb (by omega) (by decide)
          have hml : mk 8 x1 ≤ 255 := mk_le hxb
          have HN : Hid ((wr.setCell ⟨w.heap.size, 1, none⟩ (u8V (mk 8 x1))).heap[w.heap.size]? = some (.cells #[u8V (x0), u8V (mk 8 x1), u8V (x2), u8V (x3)] 88 (0, 0)) ∧ [x0, mk 8 x1, x2, x3] = fbs n 2 a b c d) := by
            refine ⟨heap_setq _ HH.out.1, ?_⟩
            have e := HH.out.2
            simp [fbs, HJ.out] at e ⊢
            simp [e]
          have HB2 : Hid ((wr.setCell ⟨w.heap.size, 1, none⟩ (u8V (mk 8 x1))).heap[w.heap.size + 1]? = some (.cells zero4 88 (0, 0)) ∧ Below w.heap.size w (wr.setCell ⟨w.heap.size, 1, none⟩ (u8V (mk 8 x1)))) := ⟨by rw [Below.heap_setCell _ _ _ _ (by show w.heap.size + 1 ≠ w.heap.size; omega)]; exact HB.out.1, HB.out.2.setCell (p := ⟨w.heap.size, 1, none⟩) (Nat.le_refl _) _⟩
          clear hxb
          generalize mk 8 x1 = z at *
          go_wp2
          go_region
          go_wp2
          go_roundw
          case rel => exact ⟨2, by omega, rfl, ⟨x0, z, x2, x3, HN.out⟩, HB2.out.1, HB2.out.2.trans ⟨rfl, rfl, rfl, Nat.le_refl _, fun _ _ => rfl⟩⟩
          case measure => simp [intOf]
        · have hj : n = 8 ∨ n = 9 ∨ n = 10 ∨ n = 11 ∨ n = 12 ∨ n = 13 ∨ n = 14 ∨ n = 15 ∨ n = 16 := by omega
          rcases hj with hj | hj | hj | hj | hj | hj | hj | hj | hj
          · have HJ : Hid (cnt n 1 = 0) := by show _ = _; unfold cnt; omega
            have hm : bits .and .u8 (x1 : Int) 0 = ((mk 0 x1 : Nat) : Int) := mk_bits (m := 0) hxb (by omega) (by decide)
            have hml : mk 0 x1 ≤ 255 := mk_le hxb
            have HN : Hid ((wr.setCell ⟨w.heap.size, 1, none⟩ (u8V (mk 0 x1))).heap[w.heap.size]? = some (.cells #[u8V (x0), u8V (mk 0 x1), u8V (x2), u8V (x3)] 88 (0, 0)) ∧ [x0, mk 0 x1, x2, x3] = fbs n 2 a b c d) := by
              refine ⟨heap_setq _ HH.out.1, ?_⟩
              have e := HH.out.2
              simp [fbs, HJ.out] at e ⊢
              simp [e]
            have HB2 : Hid ((wr.setCell ⟨w.heap.size, 1, none⟩ (u8V (mk 0 x1))).heap[w.heap.size + 1]? = some (.cells zero4 88 (0, 0)) ∧ Below w.heap.size w (wr.setCell ⟨w.heap.size, 1, none⟩ (u8V (mk 0 x1)))) := ⟨by rw [Below.heap_setCell _ _ _ _ (by show w.heap.size + 1 ≠ w.heap.size; omega)]; exact HB.out.1, HB.out.2.setCell (p := ⟨w.heap.size, 1, none⟩) (Nat.le_refl _) _⟩
            clear hxb
            generalize mk 0 x1 = z at *
            have hN : (n : Int) = 8 := by omega
            clear hj hn
            go_wp2
            go_region
            go_wp2
            go_roundw
            case rel => exact ⟨2, by omega, rfl, ⟨x0, z, x2, x3, HN.out⟩, HB2.out.1, HB2.out.2.trans ⟨rfl, rfl, rfl, Nat.le_refl _, fun _ _ => rfl⟩⟩
            case measure => simp [intOf]
          · have HJ : Hid (cnt n 1 = 1) := by show _ = _; unfold cnt; omega
            have hm : bits .and .u8 (x1 : Int) 128 = ((mk 1 x1 : Nat) : Int) := mk_bits (m := 128) hxb (by omega) (by decide)
            have hml : mk 1 x1 ≤ 255 := mk_le hxb
            have HN : Hid ((wr.setCell ⟨w.heap.size, 1, none⟩ (u8V (mk 1 x1))).heap[w.heap.size]? = some (.cells #[u8V (x0), u8V (mk 1 x1), u8V (x2), u8V (x3)] 88 (0, 0)) ∧ [x0, mk 1 x1, x2, x3] = fbs n 2 a b c d) := by
              refine ⟨heap_setq _ HH.out.1, ?_⟩
              have e := HH.out.2
              simp [fbs, HJ.out] at e ⊢
              simp [e]
            have HB2 : Hid ((wr.setCell ⟨w.heap.size, 1, none⟩ (u8V (mk 1 x1))).heap[w.heap.size + 1]? = some (.cells zero4 88 (0, 0)) ∧ Below w.heap.size w (wr.setCell ⟨w.heap.size, 1, none⟩ (u8V (mk 1 x1)))) := ⟨by rw [Below.heap_setCell _ _ _ _ (by show w.heap.size + 1 ≠ w.heap.size; omega)]; exact HB.out.1, HB.out.2.setCell (p := ⟨w.heap.size, 1, none⟩) (Nat.le_refl _) _⟩
            clear hxb
            generalize mk 1 x1 = z at *
            have hN : (n : Int) = 9 := by omega
            clear hj hn
            go_wp2
            go_region
            go_wp2
            go_roundw
            case rel => exact ⟨2, by omega, rfl, ⟨x0, z, x2, x3, HN.out⟩, HB2.out.1, HB2.out.2.trans ⟨rfl, rfl, rfl, Nat.le_refl _, fun _ _ => rfl⟩⟩
            case measure => simp [intOf]
          · have HJ : Hid (cnt n 1 = 2) := by show _ = _; unfold cnt; omega
            have hm : bits .and .u8 (x1 : Int) 192 = ((mk 2 x1 : Nat) : Int) := mk_bits (m := 192) hxb (by omega) (by decide)
            have hml : mk 2 x1 ≤ 255 := mk_le hxb
            have HN : Hid ((wr.setCell ⟨w.heap.size, 1, none⟩ (u8V (mk 2 x1))).heap[w.heap.size]? = some (.cells #[u8V (x0), u8V (mk 2 x1), u8V (x2), u8V (x3)] 88 (0, 0)) ∧ [x0, mk 2 x1, x2, x3] = fbs n 2 a b c d) := by
              refine ⟨heap_setq _ HH.out.1, ?_⟩
              have e := HH.out.2
              simp [fbs, HJ.out] at e ⊢
              simp [e]
            have HB2 : Hid ((wr.setCell ⟨w.heap.size, 1, none⟩ (u8V (mk 2 x1))).heap[w.heap.size + 1]? = some (.cells zero4 88 (0, 0)) ∧ Below w.heap.size w (wr.setCell ⟨w.heap.size, 1, none⟩ (u8V (mk 2 x1)))) := ⟨by rw [Below.heap_setCell _ _ _ _ (by show w.heap.size + 1 ≠ w.heap.size; omega)]; exact HB.out.1, HB.out.2.setCell (p := ⟨w.heap.size, 1, none⟩) (Nat.le_refl _) _⟩
            clear hxb
            generalize mk 2 x1 = z at *
            have hN : (n : Int) = 10 := by omega
            clear hj hn
            go_wp2
            go_region
            go_wp2
            go_roundw
            case rel => exact ⟨2, by omega, rfl, ⟨x0, z, x2, x3, HN.out⟩, HB2.out.1, HB2.out.2.trans ⟨rfl, rfl, rfl, Nat.le_refl _, fun _ _ => rfl⟩⟩
            case measure => simp [intOf]
          · have HJ : Hid (cnt n 1 = 3) := by show _ = _; unfold cnt; omega
            have hm : bits .and .u8 (x1 : Int) 224 = ((mk 3 x1 : Nat) : Int) := mk_bits (m := 224) hxb (by omega) (by decide)
            have hml : mk 3 x1 ≤ 255 := mk_le hxb
            have HN : Hid ((wr.setCell ⟨w.heap.size, 1, none⟩ (u8V (mk 3 x1))).heap[w.heap.size]? = some (.cells #[u8V (x0), u8V (mk 3 x1), u8V (x2), u8V (x3)] 88 (0, 0)) ∧ [x0, mk 3 x1, x2, x3] = fbs n 2 a b c d) := by
              refine ⟨heap_setq _ HH.out.1, ?_⟩
              have e := HH.out.2
              simp [fbs, HJ.out] at e ⊢
              simp [e]
            have HB2 : Hid ((wr.setCell ⟨w.heap.size, 1, none⟩ (u8V (mk 3 x1))).heap[w.heap.size + 1]? = some (.cells zero4 88 (0, 0)) ∧ Below w.heap.size w (wr.setCell ⟨w.heap.size, 1, none⟩ (u8V (mk 3 x1)))) := ⟨by rw [Below.heap_setCell _ _ _ _ (by show w.heap.size + 1 ≠ w.heap.size; omega)]; exact HB.out.1, HB.out.2.setCell (p := ⟨w.heap.size, 1, none⟩) (Nat.le_refl _) _⟩
            clear hxb
            generalize mk 3 x1 = z at *
            have hN : (n : Int) = 11 := by omega
            clear hj hn
            go_wp2
            go_region
            go_wp2
            go_roundw
            case rel => exact ⟨2, by omega, rfl, ⟨x0, z, x2, x3, HN.out⟩, HB2.out.1, HB2.out.2.trans ⟨rfl, rfl, rfl, Nat.le_refl _, fun _ _ => rfl⟩⟩
            case measure => simp [intOf]
          · have HJ : Hid (cnt n 1 = 4) := by show _ = _; unfold cnt; omega
            have hm : bits .and .u8 (x1 : Int) 240 = ((mk 4 x1 : Nat) : Int) := mk_bits (m := 240) hxb (by omega) (by decide)
            have hml : mk 4 x1 ≤ 255 := mk_le hxb
            have HN : Hid ((wr.setCell ⟨w.heap.size, 1, none⟩ (u8V (mk 4 x1))).heap[w.heap.size]? = some (.cells #[u8V (x0), u8V (mk 4 x1), u8V (x2), u8V (x3)] 88 (0, 0)) ∧ [x0, mk 4 x1, x2, x3] = fbs n 2 a b c d) := by
              refine ⟨heap_setq _ HH.out.1, ?_⟩
              have e := HH.out.2
              simp [fbs, HJ.out] at e ⊢
              simp [e]
            have HB2 : Hid ((wr.setCell ⟨w.heap.size, 1, none⟩ (u8V (mk 4 x1))).heap[w.heap.size + 1]? = some (.cells zero4 88 (0, 0)) ∧ Below w.heap.size w (wr.setCell ⟨w.heap.size, 1, none⟩ (u8V (mk 4 x1)))) := ⟨by rw [Below.heap_setCell _ _ _ _ (by show w.heap.size + 1 ≠ w.heap.size; omega)]; exact HB.out.1, HB.out.2.setCell (p := ⟨w.heap.size, 1, none⟩) (Nat.le_refl _) _⟩
            clear hxb
            generalize mk 4 x1 = z at *
            have hN : (n : Int) = 12 := by omega
            clear hj hn
            go_wp2
            go_region
            go_wp2
            go_roundw
            case rel => exact ⟨2, by omega, rfl, ⟨x0, z, x2, x3, HN.out⟩, HB2.out.1, HB2.out.2.trans ⟨rfl, rfl, rfl, Nat.le_refl _, fun _ _ => rfl⟩⟩
            case measure => simp [intOf]
          · have HJ : Hid (cnt n 1 = 5) := by show _ = _; unfold cnt; omega
            have hm : bits .and .u8 (x1 : Int) 248 = ((mk 5 x1 : Nat) : Int) := mk_bits (m := 248) hxb (by omega) (by decide)
            have hml : mk 5 x1 ≤ 255 := mk_le hxb
            have HN : Hid ((wr.setCell ⟨w.heap.size, 1, none⟩ (u8V (mk 5 x1))).heap[w.heap.size]? = some (.cells #[u8V (x0), u8V (mk 5 x1), u8V (x2), u8V (x3)] 88 (0, 0)) ∧ [x0, mk 5 x1, x2, x3] = fbs n 2 a b c d) := by
              refine ⟨heap_setq _ HH.out.1, ?_⟩
              have e := HH.out.2
              simp [fbs, HJ.out] at e ⊢
              simp [e]
            have HB2 : Hid ((wr.setCell ⟨w.heap.size, 1, none⟩ (u8V (mk 5 x1))).heap[w.heap.size + 1]? = some (.cells zero4 88 (0, 0)) ∧ Below w.heap.size w (wr.setCell ⟨w.heap.size, 1, none⟩ (u8V (mk 5 x1)))) := ⟨by rw [Below.heap_setCell _ _ _ _ (by show w.heap.size + 1 ≠ w.heap.size; omega)]; exact HB.out.1, HB.out.2.setCell (p := ⟨w.heap.size, 1, none⟩) (Nat.le_refl _) _⟩
            clear hxb
            generalize mk 5 x1 = z at *
            have hN : (n : Int) = 13 := by omega
            clear hj hn
            go_wp2
            go_region
            go_wp2
            go_roundw
            case rel => exact ⟨2, by omega, rfl, ⟨x0, z, x2, x3, HN.out⟩, HB2.out.1, HB2.out.2.trans ⟨rfl, rfl, rfl, Nat.le_refl _, fun _ _ => rfl⟩⟩
            case measure => simp [intOf]
          · have HJ : Hid (cnt n 1 = 6) := by show _ = _; unfold cnt; omega
            have hm : bits .and .u8 (x1 : Int) 252 = ((mk 6 x1 : Nat) : Int) := mk_bits (m := 252) hxb (by omega) (by decide)
            have hml : mk 6 x1 ≤ 255 := mk_le hxb
            have HN : Hid ((wr.setCell ⟨w.heap.size, 1, none⟩ (u8V (mk 6 x1))).heap[w.heap.size]? = some (.cells #[u8V (x0), u8V (mk 6 x1), u8V (x2), u8V (x3)] 88 (0, 0)) ∧ [x0, mk 6 x1, x2, x3] = fbs n 2 a b c d) := by
              refine ⟨heap_setq _ HH.out.1, ?_⟩
              have e := HH.out.2
              simp [fbs, HJ.out] at e ⊢
              simp [e]
            have HB2 : Hid ((wr.setCell ⟨w.heap.size, 1, none⟩ (u8V (mk 6 x1))).heap[w.heap.size + 1]? = some (.cells zero4 88 (0, 0)) ∧ Below w.heap.size w (wr.setCell ⟨w.heap.size, 1, none⟩ (u8V (mk 6 x1)))) := ⟨by rw [Below.heap_setCell _ _ _ _ (by show w.heap.size + 1 ≠ w.heap.size; omega)]; exact HB.out.1, HB.out.2.setCell (p := ⟨w.heap.size, 1, none⟩) (Nat.le_refl _) _⟩
            clear hxb
            generalize mk 6 x1 = z at *
            have hN : (n : Int) = 14 := by omega
            clear hj hn
            go_wp2
            go_region
            go_wp2
            go_roundw
            case rel => exact ⟨2, by omega, rfl, ⟨x0, z, x2, x3, HN.out⟩, HB2.out.1, HB2.out.2.trans ⟨rfl, rfl, rfl, Nat.le_refl _, fun _ _ => rfl⟩⟩
            case measure => simp [intOf]
          · have HJ : Hid (cnt n 1 = 7) := by show _ = _; unfold cnt; omega
            have hm : bits .and .u8 (x1 : Int) 254 = ((mk 7 x1 : Nat) : Int) := mk_bits (m := 254) hxb (by omega) (by decide)
            have hml : mk 7 x1 ≤ 255 := mk_le hxb
            have HN : Hid ((wr.setCell ⟨w.heap.size, 1, none⟩ (u8V (mk 7 x1))).heap[w.heap.size]? = some (.cells #[u8V (x0), u8V (mk 7 x1), u8V (x2), u8V (x3)] 88 (0, 0)) ∧ [x0, mk 7 x1, x2, x3] = fbs n 2 a b c d) := by
              refine ⟨heap_setq _ HH.out.1, ?_⟩
              have e := HH.out.2
              simp [fbs, HJ.out] at e ⊢
              simp [e]
            have HB2 : Hid ((wr.setCell ⟨w.heap.size, 1, none⟩ (u8V (mk 7 x1))).heap[w.heap.size + 1]? = some (.cells zero4 88 (0, 0)) ∧ Below w.heap.size w (wr.setCell ⟨w.heap.size, 1, none⟩ (u8V (mk 7 x1)))) := ⟨by rw [Below.heap_setCell _ _ _ _ (by show w.heap.size + 1 ≠ w.heap.size; omega)]; exact HB.out.1, HB.out.2.setCell (p := ⟨w.heap.size, 1, none⟩) (Nat.le_refl _) _⟩
            clear hxb
            generalize mk 7 x1 = z at *
            have hN : (n : Int) = 15 := by omega
            clear hj hn
            go_wp2
            go_region
            go_wp2
            go_roundw
            case rel => exact ⟨2, by omega, rfl, ⟨x0, z, x2, x3, HN.out⟩, HB2.out.1, HB2.out.2.trans ⟨rfl, rfl, rfl, Nat.le_refl _, fun _ _ => rfl⟩⟩
            case measure => simp [intOf]
          · have HJ : Hid (cnt n 1 = 8) := by show _ = _; unfold cnt; omega
            have hm : bits .and .u8 (x1 : Int) 255 = ((mk 8 x1 : Nat) : Int) := mk_bits (m := 255) hxb (by omega) (by decide)
            have hml : mk 8 x1 ≤ 255 := mk_le hxb
            have HN : Hid ((wr.setCell ⟨w.heap.size, 1, none⟩ (u8V (mk 8 x1))).heap[w.heap.size]? = some (.cells #[u8V (x0), u8V (mk 8 x1), u8V (x2), u8V (x3)] 88 (0, 0)) ∧ [x0, mk 8 x1, x2, x3] = fbs n 2 a b c d) := by
              refine ⟨heap_setq _ HH.out.1, ?_⟩
              have e := HH.out.2
              simp [fbs, HJ.out] at e ⊢
              simp [e]
            have HB2 : Hid ((wr.setCell ⟨w.heap.size, 1, none⟩ (u8V (mk 8 x1))).heap[w.heap.size + 1]? = some (.cells zero4 88 (0, 0)) ∧ Below w.heap.size w (wr.setCell ⟨w.heap.size, 1, none⟩ (u8V (mk 8 x1)))) := ⟨by rw [Below.heap_setCell _ _ _ _ (by show w.heap.size + 1 ≠ w.heap.size; omega)]; exact HB.out.1, HB.out.2.setCell (p := ⟨w.heap.size, 1, none⟩) (Nat.le_refl _) _⟩
            clear hxb
            generalize mk 8 x1 = z at *
            have hN : (n : Int) = 16 := by omega
            clear hj hn
            go_wp2
            go_region
            go_wp2
            go_roundw
            case rel => exact ⟨2, by omega, rfl, ⟨x0, z, x2, x3, HN.out⟩, HB2.out.1, HB2.out.2.trans ⟨rfl, rfl, rfl, Nat.le_refl _, fun _ _ => rfl⟩⟩
            case measure => simp [intOf]
    · have hxb : x2 ≤ 255 := by
        have e := HH.out.2
        simp [fbs] at e
        omega
      by_cases h0 : n < 16
      · have HJ : Hid (cnt n 2 = 0) := by show _ = _; unfold cnt; omega
        have hm : bits .and .u8 (x2 : Int) 0 = ((mk 0 x2 : Nat) : Int) := mk_bits (m := 0) hxb (by omega) (by decide)
        have hml : mk 0 x2 ≤ 255 := mk_le hxb
        have HN : Hid ((wr.setCell ⟨w.heap.size, 2, none⟩ (u8V (mk 0 x2))).heap[w.heap.size]? = some (.cells #[u8V (x0), u8V (x1), u8V (mk 0 x2), u8V (x3)] 88 (0, 0)) ∧ [x0, x1, mk 0 x2, x3] = fbs n 3 a b c d) := by
          refine ⟨heap_setq _ HH.out.1, ?_⟩
          have e := HH.out.2
          simp [fbs, HJ.out] at e ⊢
          simp [e]
        have HB2 : Hid ((wr.setCell ⟨w.heap.size, 2, none⟩ (u8V (mk 0 x2))).heap[w.heap.size + 1]? = some (.cells zero4 88 (0, 0)) ∧ Below w.heap.size w (wr.setCell ⟨w.heap.size, 2, none⟩ (u8V (mk 0 x2)))) := ⟨by rw [Below.heap_setCell _ _ _ _ (by show w.heap.size + 1 ≠ w.heap.size; omega)]; exact HB.out.1, HB.out.2.setCell (p := ⟨w.heap.size, 2, none⟩) (Nat.le_refl _) _⟩
        clear hxb
        generalize mk 0 x2 = z at *
        go_wp2
        go_region
        go_wp2
        go_roundw
        case rel => exact ⟨3, by omega, rfl, ⟨x0, x1, z, x3, HN.out⟩, HB2.out.1, HB2.out.2.trans ⟨rfl, rfl, rfl, Nat.le_refl _, fun _ _ => rfl⟩⟩
        case measure => simp [intOf]
      · by_cases h8 : 24 < n
        · have HJ : Hid (cnt n 2 = 8) := by show _ = _; unfold cnt; omega
          have hm : bits .and .u8 (x2 : Int) 255 = ((mk 8 x2 : Nat) : Int) := mk_bits (m := 255) hxb (by omega) (by decide)
          have hml : mk 8 x2 ≤ 255 := mk_le hxb
          have HN : Hid ((wr.setCell ⟨w.heap.size, 2, none⟩ (u8V (mk 8 x2))).heap[w.heap.size]? = some (.cells #[u8V (x0), u8V (x1), u8V (mk 8 x2), u8V (x3)] 88 (0, 0)) ∧ [x0, x1, mk 8 x2, x3] = fbs n 3 a b c d) := by
            refine ⟨heap_setq _ HH.out.1, ?_⟩
            have e := HH.out.2
            simp [fbs, HJ.out] at e ⊢
            simp [e]
          have HB2 : Hid ((wr.setCell ⟨w.heap.size, 2, none⟩ (u8V (mk 8 x2))).heap[w.heap.size + 1]? = some (.cells zero4 88 (0, 0)) ∧ Below w.heap.size w (wr.setCell ⟨w.heap.size, 2, none⟩ (u8V (mk 8 x2)))) := ⟨by rw [Below.heap_setCell _ _ _ _ (by show w.heap.size + 1 ≠ w.heap.size; omega)]; exact HB.out.1, HB.out.2.setCell (p := ⟨w.heap.size, 2, none⟩) (Nat.le_refl _) _⟩
          clear hxb
          generalize mk 8 x2 = z at *
          go_wp2
          go_region
          go_wp2
          go_roundw
          case rel => exact ⟨3, by omega, rfl, ⟨x0, x1, z, x3, HN.out⟩, HB2.out.1, HB2.out.2.trans ⟨rfl, rfl, rfl, Nat.le_refl _, fun _ _ => rfl⟩⟩
          case measure => simp [intOf]
        · have hj : n = 16 ∨ n = 17 ∨ n = 18 ∨ n = 19 ∨ n = 20 ∨ n = 21 ∨ n = 22 ∨ n = 23 ∨ n = 24 := by omega
          rcases hj with hj | hj | hj | hj | hj | hj | hj | hj | hj
          · have HJ : Hid (cnt n 2 = 0) := by show _ = _; unfold cnt; omega
            have hm : bits .and .u8 (x2 : Int) 0 = ((mk 0 x2 : Nat) : Int) := mk_bits (m := 0) hxb (by omega) (by decide)
            have hml : mk 0 x2 ≤ 255 := mk_le hxb
            have HN : Hid ((wr.setCell ⟨w.heap.size, 2, none⟩ (u8V (mk 0 x2))).heap[w.heap.size]? = some (.cells #[u8V (x0), u8V (x1), u8V (mk 0 x2), u8V (x3)] 88 (0, 0)) ∧ [x0, x1, mk 0 x2, x3] = fbs n 3 a b c d) := by
              refine ⟨heap_setq _ HH.out.1, ?_⟩
              have e := HH.out.2
              simp [fbs, HJ.out] at e ⊢
              simp [e]
            have HB2 : Hid ((wr.setCell ⟨w.heap.size, 2, none⟩ (u8V (mk 0 x2))).heap[w.heap.size + 1]? = some (.cells zero4 88 (0, 0)) ∧ Below w.heap.size w (wr.setCell ⟨w.heap.size, 2, none⟩ (u8V (mk 0 x2)))) := ⟨by rw [Below.heap_setCell _ _ _ _ (by show w.heap.size + 1 ≠ w.heap.size; omega)]; exact HB.out.1, HB.out.2.setCell (p := ⟨w.heap.size, 2, none⟩) (Nat.le_refl _) _⟩
            clear hxb
            generalize mk 0 x2 = z at *
            have hN : (n : Int) = 16 := by omega
            clear hj hn
            go_wp2
            go_region
            go_wp2
            go_roundw
            case rel => exact ⟨3, by omega, rfl, ⟨x0, x1, z, x3, HN.out⟩, HB2.out.1, HB2.out.2.trans ⟨rfl, rfl, rfl, Nat.le_refl _, fun _ _ => rfl⟩⟩
            case measure => simp [intOf]
          · have HJ : Hid (cnt n 2 = 1) := by show _ = _; unfold cnt; omega
            have hm : bits .and .u8 (x2 : Int) 128 = ((mk 1 x2 : Nat) : Int) := mk_bits (m := 128) hxb (by omega) (by decide)
            have hml : mk 1 x2 ≤ 255 := mk_le hxb
            have HN : Hid ((wr.setCell ⟨w.heap.size, 2, none⟩ (u8V (mk 1 x2))).heap[w.heap.size]? = some (.cells #[u8V (x0), u8V (x1), u8V (mk 1 x2), u8V (x3)] 88 (0, 0)) ∧ [x0, x1, mk 1 x2, x3] = fbs n 3 a b c d) := by
              refine ⟨heap_setq _ HH.out.1, ?_⟩
              have e := HH.out.2
              simp [fbs, HJ.out] at e ⊢
              simp [e]
            have HB2 : Hid ((wr.setCell ⟨w.heap.size, 2, none⟩ (u8V (mk 1 x2))).heap[w.heap.size + 1]? = some (.cells zero4 88 (0, 0)) ∧ Below w.heap.size w (wr.setCell ⟨w.heap.size, 2, none⟩ (u8V (mk 1 x2)))) := ⟨by rw [Below.heap_setCell _ _ _ _ (by show w.heap.size + 1 ≠ w.heap.size; omega)]; exact HB.out.1, HB.out.2.setCell (p := ⟨w.heap.size, 2, none⟩) (Nat.le_refl _) _⟩
            clear hxb
            generalize mk 1 x2 = z at *
            have hN : (n : Int) = 17 := by omega
            clear hj hn
            go_wp2
            go_region
            go_wp2
            go_roundw
            case rel => exact ⟨3, by omega, rfl, ⟨x0, x1, z, x3, HN.out⟩, HB2.out.1, HB2.out.2.trans ⟨rfl, rfl, rfl, Nat.le_refl _, fun _ _ => rfl⟩⟩
            case measure => simp [intOf]
          · have HJ : Hid (cnt n 2 = 2) := by show _ = _; unfold cnt; omega
            have hm : bits .and .u8 (x2 : Int) 192 = ((mk 2 x2 : Nat) : Int) := mk_bits (m := 192) hxb (by omega) (by decide)
            have hml : mk 2 x2 ≤ 255 := mk_le hxb
            have HN : Hid ((wr.setCell ⟨w.heap.size, 2, none⟩ (u8V (mk 2 x2))).heap[w.heap.size]? = some (.cells #[u8V (x0), u8V (x1), u8V (mk 2 x2), u8V (x3)] 88 (0, 0)) ∧ [x0, x1, mk 2 x2, x3] = fbs n 3 a b c d) := by
              refine ⟨heap_setq _ HH.out.1, ?_⟩
              have e := HH.out.2
              simp [fbs, HJ.out] at e ⊢
              simp [e]
            have HB2 : Hid ((wr.setCell ⟨w.heap.size, 2, none⟩ (u8V (mk 2 x2))).heap[w.heap.size + 1]? = some (.cells zero4 88 (0, 0)) ∧ Below w.heap.size w (wr.setCell ⟨w.heap.size, 2, none⟩ (u8V (mk 2 x2)))) := ⟨by rw [Below.heap_setCell _ _ _ _ (by show w.heap.size + 1 ≠ w.heap.size; omega)]; exact HB.out.1, HB.out.2.setCell (p := ⟨w.heap.size, 2, none⟩) (Nat.le_refl _) _⟩
            clear hxb
            generalize mk 2 x2 = z at *
            have hN : (n : Int) = 18 := by omega
            clear hj hn
            go_wp2
            go_region
            go_wp2
            go_roundw
            case rel => exact ⟨3, by omega, rfl, ⟨x0, x1, z, x3, HN.out⟩, HB2.out.1, HB2.out.2.trans ⟨rfl, rfl, rfl, Nat.le_refl _, fun _ _ => rfl⟩⟩
            case measure => simp [intOf]
          · have HJ : Hid (cnt n 2 = 3) := by show _ = _; unfold cnt; omega
            have hm : bits .and .u8 (x2 : Int) 224 = ((mk 3 x2 : Nat) : Int) := mk_bits (m := 224) hxb (by omega) (by decide)
            have hml : mk 3 x2 ≤ 255 := mk_le hxb
            have HN : Hid ((wr.setCell ⟨w.heap.size, 2, none⟩ (u8V (mk 3 x2))).heap[w.heap.size]? = some (.cells #[u8V (x0), u8V (x1), u8V (mk 3 x2), u8V (x3)] 88 (0, 0)) ∧ [x0, x1, mk 3 x2, x3] = fbs n 3 a b c d) := by
              refine ⟨heap_setq _ HH.out.1, ?_⟩
              have e := HH.out.2
              simp [fbs, HJ.out] at e ⊢
              simp [e]
            have HB2 : Hid ((wr.setCell ⟨w.heap.size, 2, none⟩ (u8V (mk 3 x2))).heap[w.heap.size + 1]? = some (.cells zero4 88 (0, 0)) ∧ Below w.heap.size w (wr.setCell ⟨w.heap.size, 2, none⟩ (u8V (mk 3 x2)))) := ⟨by rw [Below.heap_setCell _ _ _ _ (by show w.heap.size + 1 ≠ w.heap.size; omega)]; exact HB.out.1, HB.out.2.setCell (p := ⟨w.heap.size, 2, none⟩) (Nat.le_refl _) _⟩
            clear hxb
            generalize mk 3 x2 = z at *
            have hN : (n : Int) = 19 := by omega
            clear hj hn
            go_wp2
            go_region
            go_wp2
            go_roundw
            case rel => exact ⟨3, by omega, rfl, ⟨x0, x1, z, x3, HN.out⟩, HB2.out.1, HB2.out.2.trans ⟨rfl, rfl, rfl, Nat.le_refl _, fun _ _ => rfl⟩⟩
            case measure => simp [intOf]
          · have HJ : Hid (cnt n 2 = 4) := by show _ = _; unfold cnt; omega
            have hm : bits .and .u8 (x2 : Int) 240 = ((mk 4 x2 : Nat) : Int) := mk_bits (m := 240) hxb (by omega) (by decide)
            have hml : mk 4 x2 ≤ 255 := mk_le hxb
            have HN : Hid ((wr.setCell ⟨w.heap.size, 2, none⟩ (u8V (mk 4 x2))).heap[w.heap.size]? = some (.cells #[u8V (x0), u8V (x1), u8V (mk 4 x2), u8V (x3)] 88 (0, 0)) ∧ [x0, x1, mk 4 x2, x3] = fbs n 3 a b c d) := by
              refine ⟨heap_setq _ HH.out.1, ?_⟩
              have e := HH.out.2
              simp [fbs, HJ.out] at e ⊢
              simp [e]
            have HB2 : Hid ((wr.setCell ⟨w.heap.size, 2, none⟩ (u8V (mk 4 x2))).heap[w.heap.size + 1]? = some (.cells zero4 88 (0, 0)) ∧ Below w.heap.size w (wr.setCell ⟨w.heap.size, 2, none⟩ (u8V (mk 4 x2)))) := ⟨by rw [Below.heap_setCell _ _ _ _ (by show w.heap.size + 1 ≠ w.heap.size; omega)]; exact HB.out.1, HB.out.2.setCell (p := ⟨w.heap.size, 2, none⟩) (Nat.le_refl _) _⟩
            clear hxb
            generalize mk 4 x2 = z at *
            have hN : (n : Int) = 20 := by omega
            clear hj hn
            go_wp2
            go_region
            go_wp2
            go_roundw
            case rel => exact ⟨3, by omega, rfl, ⟨x0, x1, z, x3, HN.out⟩, HB2.out.1, HB2.out.2.trans ⟨rfl, rfl, rfl, Nat.le_refl _, fun _ _ => rfl⟩⟩
            case measure => simp [intOf]
          · have HJ : Hid (cnt n 2 = 5) := by show _ = _; unfold cnt; omega
            have hm : bits .and .u8 (x2 : Int) 248 = ((mk 5 x2 : Nat) : Int) := mk_bits (m := 248) hxb (by omega) (by decide)
            have hml : mk 5 x2 ≤ 255 := mk_le hxb
            have HN : Hid ((wr.setCell ⟨w.heap.size, 2, none⟩ (u8V (mk 5 x2))).heap[w.heap.size]? = some (.cells #[u8V (x0), u8V (x1), u8V (mk 5 x2), u8V (x3)] 88 (0, 0)) ∧ [x0, x1, mk 5 x2, x3] = fbs n 3 a b c d) := by
              refine ⟨heap_setq _ HH.out.1, ?_⟩
              have e := HH.out.2
              simp [fbs, HJ.out] at e ⊢
              simp [e]
            have HB2 : Hid ((wr.setCell ⟨w.heap.size, 2, none⟩ (u8V (mk 5 x2))).heap[w.heap.size + 1]? = some (.cells zero4 88 (0, 0)) ∧ Below w.heap.size w (wr.setCell ⟨w.heap.size, 2, none⟩ (u8V (mk 5 x2)))) := ⟨by rw [Below.heap_setCell _ _ _ _ (by show w.heap.size + 1 ≠ w.heap.size; omega)]; exact HB.out.1, HB.out.2.setCell (p := ⟨w.heap.size, 2, none⟩) (Nat.le_refl _) _⟩
            clear hxb
            generalize mk 5 x2 = z at *
            have hN : (n : Int) = 21 := by omega
            clear hj hn
            go_wp2
            go_region
            go_wp2
            go_roundw
            case rel => exact ⟨3, by omega, rfl, ⟨x0, x1, z, x3, HN.out⟩, HB2.out.1, HB2.out.2.trans ⟨rfl, rfl, rfl, Nat.le_refl _, fun _ _ => rfl⟩⟩
            case measure => simp [intOf]
          · have HJ : Hid (cnt n 2 = 6) := by show _ = _; unfold cnt; omega
            have hm : bits .and .u8 (x2 : Int) 252 = ((mk 6 x2 : Nat) : Int) := mk_bits (m := 252) hxb (by omega) (by decide)
            have hml : mk 6 x2 ≤ 255 := mk_le hxb
            have HN : Hid ((wr.setCell ⟨w.heap.size, 2, none⟩ (u8V (mk 6 x2))).heap[w.heap.size]? = some (.cells #[u8V (x0), u8V (x1), u8V (mk 6 x2), u8V (x3)] 88 (0, 0)) ∧ [x0, x1, mk 6 x2, x3] = fbs n 3 a b c d) := by
              refine ⟨heap_setq _ HH.out.1, ?_⟩
              have e := HH.out.2
              simp [fbs, HJ.out] at e ⊢
              simp [e]
            have HB2 : Hid ((wr.setCell ⟨w.heap.size, 2, none⟩ (u8V (mk 6 x2))).heap[w.heap.size + 1]? = some (.cells zero4 88 (0, 0)) ∧ Below w.heap.size w (wr.setCell ⟨w.heap.size, 2, none⟩ (u8V (mk 6 x2)))) := ⟨by rw [Below.heap_setCell _ _ _ _ (by show w.heap.size + 1 ≠ w.heap.size; omega)]; exact HB.out.1, HB.out.2.setCell (p := ⟨w.heap.size, 2, none⟩) (Nat.le_refl _) _⟩
            clear hxb
            generalize mk 6 x2 = z at *
            have hN : (n : Int) = 22 := by omega
            clear hj hn
            go_wp2
            go_region
            go_wp2
            go_roundw
            case rel => exact ⟨3, by omega, rfl, ⟨x0, x1, z, x3, HN.out⟩, HB2.out.1, HB2.out.2.trans ⟨rfl, rfl, rfl, Nat.le_refl _, fun _ _ => rfl⟩⟩
            case measure => simp [intOf]
          · have HJ : Hid (cnt n 2 = 7) := by show _ = _; unfold cnt; omega
            have hm : bits .and .u8 (x2 : Int) 254 = ((mk 7 x2 : Nat) : Int) := mk_bits (m := 254) hxb (by omega) (by decide)
            have hml : mk 7 x2 ≤ 255 := mk_le hxb
            have HN : Hid ((wr.setCell ⟨w.heap.size, 2, none⟩ (u8V (mk 7 x2))).heap[w.heap.size]? = some (.cells #[u8V (x0), u8V (x1), u8V (mk 7 x2), u8V (x3)] 88 (0, 0)) ∧ [x0, x1, mk 7 x2, x3] = fbs n 3 a b c d) := by
              refine ⟨heap_setq _ HH.out.1, ?_⟩
              have e := HH.out.2
              simp [fbs, HJ.out] at e ⊢
              simp [e]
            have HB2 : Hid ((wr.setCell ⟨w.heap.size, 2, none⟩ (u8V (mk 7 x2))).heap[w.heap.size + 1]? = some (.cells zero4 88 (0, 0)) ∧ Below w.heap.size w (wr.setCell ⟨w.heap.size, 2, none⟩ (u8V (mk 7 x2)))) := ⟨by rw [Below.heap_setCell _ _ _ _ (by show w.heap.size + 1 ≠ w.heap.size; omega)]; exact HB.out.1, HB.out.2.setCell (p := ⟨w.heap.size, 2, none⟩) (Nat.le_refl _) _⟩
            clear hxb
            generalize mk 7 x2 = z at *
            have hN : (n : Int) = 23 := by omega
            clear hj hn
            go_wp2
            go_region
            go_wp2
            go_roundw
            case rel => exact ⟨3, by omega, rfl, ⟨x0, x1, z, x3, HN.out⟩, HB2.out.1, HB2.out.2.trans ⟨rfl, rfl, rfl, Nat.le_refl _, fun _ _ => rfl⟩⟩
            case measure => simp [intOf]
          · have HJ : Hid (cnt n 2 = 8) := by show _ = _; unfold cnt; omega
            have hm : bits .and .u8 (x2 : Int) 255 = ((mk 8 x2 : Nat) : Int) := mk_bits (m := 255) hxb (by omega) (by decide)
            have hml : mk 8 x2 ≤ 255 := mk_le hxb
            have HN : Hid ((wr.setCell ⟨w.heap.size, 2, none⟩ (u8V (mk 8 x2))).heap[w.heap.size]? = some (.cells #[u8V (x0), u8V (x1), u8V (mk 8 x2), u8V (x3)] 88 (0, 0)) ∧ [x0, x1, mk 8 x2, x3] = fbs n 3 a b c d) := by
              refine ⟨heap_setq _ HH.out.1, ?_⟩
              have e := HH.out.2
              simp [fbs, HJ.out] at e ⊢
              simp [e]
            have HB2 : Hid ((wr.setCell ⟨w.heap.size, 2, none⟩ (u8V (mk 8 x2))).heap[w.heap.size + 1]? = some (.cells zero4 88 (0, 0)) ∧ Below w.heap.size w (wr.setCell ⟨w.heap.size, 2, none⟩ (u8V (mk 8 x2)))) := ⟨by rw [Below.heap_setCell _ _ _ _ (by show w.heap.size + 1 ≠ w.heap.size; omega)]; exact HB.out.1, HB.out.2.setCell (p := ⟨w.heap.size, 2, none⟩) (Nat.le_refl _) _⟩
            clear hxb
            generalize mk 8 x2 = z at *
            have hN : (n : Int) = 24 := by omega
            clear hj hn
            go_wp2
            go_region
            go_wp2
            go_roundw
            case rel => exact ⟨3, by omega, rfl, ⟨x0, x1, z, x3, HN.out⟩, HB2.out.1, HB2.out.2.trans ⟨rfl, rfl, rfl, Nat.le_refl _, fun _ _ => rfl⟩⟩
            case measure => simp [intOf]
    · have hxb : x3 ≤ 255 := by
        have e := HH.out.2
        simp [fbs] at e
        omega
      by_cases h0 : n < 24
      · have HJ : Hid (cnt n 3 = 0) := by show _ = _; unfold cnt; omega
        have hm : bits .and .u8 (x3 : Int) 0 = ((mk 0 x3 : Nat) : Int) := mk_bits (m := 0) hxb (by omega) (by decide)
        have hml : mk 0 x3 ≤ 255 := mk_le hxb
        have HN : Hid ((wr.setCell ⟨w.heap.size, 3, none⟩ (u8V (mk 0 x3))).heap[w.heap.size]? = some (.cells #[u8V (x0), u8V (x1), u8V (x2), u8V (mk 0 x3)] 88 (0, 0)) ∧ [x0, x1, x2, mk 0 x3] = fbs n 4 a b c d) := by
          refine ⟨heap_setq _ HH.out.1, ?_⟩
          have e := HH.out.2
          simp [fbs, HJ.out] at e ⊢
          simp [e]
        have HB2 : Hid ((wr.setCell ⟨w.heap.size, 3, none⟩ (u8V (mk 0 x3))).heap[w.heap.size + 1]? = some (.cells zero4 88 (0, 0)) ∧ Below w.heap.size w (wr.setCell ⟨w.heap.size, 3, none⟩ (u8V (mk 0 x3)))) := ⟨by rw [Below.heap_setCell _ _ _ _ (by show w.heap.size + 1 ≠ w.heap.size; omega)]; exact HB.out.1, HB.out.2.setCell (p := ⟨w.heap.size, 3, none⟩) (Nat.le_refl _) _⟩
        clear hxb
        generalize mk 0 x3 = z at *
        go_wp2
        go_region
        go_wp2
        go_roundw
        case rel => exact ⟨4, by omega, rfl, ⟨x0, x1, x2, z, HN.out⟩, HB2.out.1, HB2.out.2.trans ⟨rfl, rfl, rfl, Nat.le_refl _, fun _ _ => rfl⟩⟩
        case measure => simp [intOf]
      · have hj : n = 24 ∨ n = 25 ∨ n = 26 ∨ n = 27 ∨ n = 28 ∨ n = 29 ∨ n = 30 ∨ n = 31 ∨ n = 32 := by omega
        rcases hj with hj | hj | hj | hj | hj | hj | hj | hj | hj
        · have HJ : Hid (cnt n 3 = 0) := by show _ = _; unfold cnt; omega
          have hm : bits .and .u8 (x3 : Int) 0 = ((mk 0 x3 : Nat) : Int) := mk_bits (m := 0) hxb (by omega) (by decide)
          have hml : mk 0 x3 ≤ 255 := mk_le hxb
          have HN : Hid ((wr.setCell ⟨w.heap.size, 3, none⟩ (u8V (mk 0 x3))).heap[w.heap.size]? = some (.cells #[u8V (x0), u8V (x1), u8V (x2), u8V (mk 0 x3)] 88 (0, 0)) ∧ [x0, x1, x2, mk 0 x3] = fbs n 4 a b c d) := by
            refine ⟨heap_setq _ HH.out.1, ?_⟩
            have e := HH.out.2
            simp [fbs, HJ.out] at e ⊢
            simp [e]
          have HB2 : Hid ((wr.setCell ⟨w.heap.size, 3, none⟩ (u8V (mk 0 x3))).heap[w.heap.size + 1]? = some (.cells zero4 88 (0, 0)) ∧ Below w.heap.size w (wr.setCell ⟨w.heap.size, 3, none⟩ (u8V (mk 0 x3)))) := ⟨by rw [Below.heap_setCell _ _ _ _ (by show w.heap.size + 1 ≠ w.heap.size; omega)]; exact HB.out.1, HB.out.2.setCell (p := ⟨w.heap.size, 3, none⟩) (Nat.le_refl _) _⟩
          clear hxb
          generalize mk 0 x3 = z at *
          have hN : (n : Int) = 24 := by omega
          clear hj hn
          go_wp2
          go_region
          go_wp2
          go_roundw
          case rel => exact ⟨4, by omega, rfl, ⟨x0, x1, x2, z, HN.out⟩, HB2.out.1, HB2.out.2.trans ⟨rfl, rfl, rfl, Nat.le_refl _, fun _ _ => rfl⟩⟩
          case measure => simp [intOf]
        · have HJ : Hid (cnt n 3 = 1) := by show _ = _; unfold cnt; omega
          have hm : bits .and .u8 (x3 : Int) 128 = ((mk 1 x3 : Nat) : Int) := mk_bits (m := 128) hxb (by omega) (by decide)
          have hml : mk 1 x3 ≤ 255 := mk_le hxb
          have HN : Hid ((wr.setCell ⟨w.heap.size, 3, none⟩ (u8V (mk 1 x3))).heap[w.heap.size]? = some (.cells #[u8V (x0), u8V (x1), u8V (x2), u8V (mk 1 x3)] 88 (0, 0)) ∧ [x0, x1, x2, mk 1 x3] = fbs n 4 a b c d) := by
            refine ⟨heap_setq _ HH.out.1, ?_⟩
            have e := HH.out.2
            simp [fbs, HJ.out] at e ⊢
            simp [e]
          have HB2 : Hid ((wr.setCell ⟨w.heap.size, 3, none⟩ (u8V (mk 1 x3))).heap[w.heap.size + 1]? = some (.cells zero4 88 (0, 0)) ∧ Below w.heap.size w (wr.setCell ⟨w.heap.size, 3, none⟩ (u8V (mk 1 x3)))) := ⟨by rw [Below.heap_setCell _ _ _ _ (by show w.heap.size + 1 ≠ w.heap.size; omega)]; exact HB.out.1, HB.out.2.setCell (p := ⟨w.heap.size, 3, none⟩) (Nat.le_refl _) _⟩
          clear hxb
          generalize mk 1 x3 = z at *
          have hN : (n : Int) = 25 := by omega
          clear hj hn
          go_wp2
          go_region
          go_wp2
          go_roundw
          case rel => exact ⟨4, by omega, rfl, ⟨x0, x1, x2, z, HN.out⟩, HB2.out.1, HB2.out.2.trans ⟨rfl, rfl, rfl, Nat.le_refl _, fun _ _ => rfl⟩⟩
          case measure => simp [intOf]
        · have HJ : Hid (cnt n 3 = 2) := by show _ = _; unfold cnt; omega
          have hm : bits .and .u8 (x3 : Int) 192 = ((mk 2 x3 : Nat) : Int) := mk_bits (m := 192) hxb (by omega) (by decide)
          have hml : mk 2 x3 ≤ 255 := mk_le hxb
          have HN : Hid ((wr.setCell ⟨w.heap.size, 3, none⟩ (u8V (mk 2 x3))).heap[w.heap.size]? = some (.cells #[u8V (x0), u8V (x1), u8V (x2), u8V (mk 2 x3)] 88 (0, 0)) ∧ [x0, x1, x2, mk 2 x3] = fbs n 4 a b c d) := by
            refine ⟨heap_setq _ HH.out.1, ?_⟩
            have e := HH.out.2
            simp [fbs, HJ.out] at e ⊢
            simp [e]
          have HB2 : Hid ((wr.setCell ⟨w.heap.size, 3, none⟩ (u8V (mk 2 x3))).heap[w.heap.size + 1]? = some (.cells zero4 88 (0, 0)) ∧ Below w.heap.size w (wr.setCell ⟨w.heap.size, 3, none⟩ (u8V (mk 2 x3)))) := ⟨by rw [Below.heap_setCell _ _ _ _ (by show w.heap.size + 1 ≠ w.heap.size; omega)]; exact HB.out.1, HB.out.2.setCell (p := ⟨w.heap.size, 3, none⟩) (Nat.le_refl _) _⟩
          clear hxb
          generalize mk 2 x3 = z at *
          have hN : (n : Int) = 26 := by omega
          clear hj hn
          go_wp2
          go_region
          go_wp2
          go_roundw
          case rel => exact ⟨4, by omega, rfl, ⟨x0, x1, x2, z, HN.out⟩, HB2.out.1, HB2.out.2.trans ⟨rfl, rfl, rfl, Nat.le_refl _, fun _ _ => rfl⟩⟩
          case measure => simp [intOf]
        · have HJ : Hid (cnt n 3 = 3) := by show _ = _; unfold cnt; omega
          have hm : bits .and .u8 (x3 : Int) 224 = ((mk 3 x3 : Nat) : Int) := mk_bits (m := 224) hxb (by omega) (by decide)
          have hml : mk 3 x3 ≤ 255 := mk_le hxb
          have HN : Hid ((wr.setCell ⟨w.heap.size, 3, none⟩ (u8V (mk 3 x3))).heap[w.heap.size]? = some (.cells #[u8V (x0), u8V (x1), u8V (x2), u8V (mk 3 x3)] 88 (0, 0)) ∧ [x0, x1, x2, mk 3 x3] = fbs n 4 a b c d) := by
            refine ⟨heap_setq _ HH.out.1, ?_⟩
            have e := HH.out.2
            simp [fbs, HJ.out] at e ⊢
            simp [e]
          have HB2 : Hid ((wr.setCell ⟨w.heap.size, 3, none⟩ (u8V (mk 3 x3))).heap[w.heap.size + 1]? = some (.cells zero4 88 (0, 0)) ∧ Below w.heap.size w (wr.setCell ⟨w.heap.size, 3, none⟩ (u8V (mk 3 x3)))) := ⟨by rw [Below.heap_setCell _ _ _ _ (by show w.heap.size + 1 ≠ w.heap.size; omega)]; exact HB.out.1, HB.out.2.setCell (p := ⟨w.heap.size, 3, none⟩) (Nat.le_refl _) _⟩
          clear hxb
          generalize mk 3 x3 = z at *
          have hN : (n : Int) = 27 := by omega
          clear hj hn
          go_wp2
          go_region
          go_wp2
          go_roundw
          case rel => exact ⟨4, by omega, rfl, ⟨x0, x1, x2, z, HN.out⟩, HB2.out.1, HB2.out.2.trans ⟨rfl, rfl, rfl, Nat.le_refl _, fun _ _ => rfl⟩⟩
          case measure => simp [intOf]
        · have HJ : Hid (cnt n 3 = 4) := by show _ = _; unfold cnt; omega
          have hm : bits .and .u8 (x3 : Int) 240 = ((mk 4 x3 : Nat) : Int) := mk_bits (m := 240) hxb (by omega) (by decide)
          have hml : mk 4 x3 ≤ 255 := mk_le hxb
          have HN : Hid ((wr.setCell ⟨w.heap.size, 3, none⟩ (u8V (mk 4 x3))).heap[w.heap.size]? = some (.cells #[u8V (x0), u8V (x1), u8V (x2), u8V (mk 4 x3)] 88 (0, 0)) ∧ [x0, x1, x2, mk 4 x3] = fbs n 4 a b c d) := by
            refine ⟨heap_setq _ HH.out.1, ?_⟩
            have e := HH.out.2
            simp [fbs, HJ.out] at e ⊢
            simp [e]
          have HB2 : Hid ((wr.setCell ⟨w.heap.size, 3, none⟩ (u8V (mk 4 x3))).heap[w.heap.size + 1]? = some (.cells zero4 88 (0, 0)) ∧ Below w.heap.size w (wr.setCell ⟨w.heap.size, 3, none⟩ (u8V (mk 4 x3)))) := ⟨by rw [Below.heap_setCell _ _ _ _ (by show w.heap.size + 1 ≠ w.heap.size; omega)]; exact HB.out.1, HB.out.2.setCell (p := ⟨w.heap.size, 3, none⟩) (Nat.le_refl _) _⟩
          clear hxb
          generalize mk 4 x3 = z at *
          have hN : (n : Int) = 28 := by omega
          clear hj hn
          go_wp2
          go_region
          go_wp2
          go_roundw
          case rel => exact ⟨4, by omega, rfl, ⟨x0, x1, x2, z, HN.out⟩, HB2.out.1, HB2.out.2.trans ⟨rfl, rfl, rfl, Nat.le_refl _, fun _ _ => rfl⟩⟩
          case measure => simp [intOf]
        · have HJ : Hid (cnt n 3 = 5) := by show _ = _; unfold cnt; omega
          have hm : bits .and .u8 (x3 : Int) 248 = ((mk 5 x3 : Nat) : Int) := mk_bits (m := 248) hxb (by omega) (by decide)
          have hml : mk 5 x3 ≤ 255 := mk_le hxb
          have HN : Hid ((wr.setCell ⟨w.heap.size, 3, none⟩ (u8V (mk 5 x3))).heap[w.heap.size]? = some (.cells #[u8V (x0), u8V (x1), u8V (x2), u8V (mk 5 x3)] 88 (0, 0)) ∧ [x0, x1, x2, mk 5 x3] = fbs n 4 a b c d) := by
            refine ⟨heap_setq _ HH.out.1, ?_⟩
            have e := HH.out.2
            simp [fbs, HJ.out] at e ⊢
            simp [e]
          have HB2 : Hid ((wr.setCell ⟨w.heap.size, 3, none⟩ (u8V (mk 5 x3))).heap[w.heap.size + 1]? = some (.cells zero4 88 (0, 0)) ∧ Below w.heap.size w (wr.setCell ⟨w.heap.size, 3, none⟩ (u8V (mk 5 x3)))) := ⟨by rw [Below.heap_setCell _ _ _ _ (by show w.heap.size + 1 ≠ w.heap.size; omega)]; exact HB.out.1, HB.out.2.setCell (p := ⟨w.heap.size, 3, none⟩) (Nat.le_refl _) _⟩
          clear hxb
          generalize mk 5 x3 = z at *
          have hN : (n : Int) = 29 := by omega
          clear hj hn
          go_wp2
          go_region
          go_wp2
          go_roundw
          case rel => exact ⟨4, by omega, rfl, ⟨x0, x1, x2, z, HN.out⟩, HB2.out.1, HB2.out.2.trans ⟨rfl, rfl, rfl, Nat.le_refl _, fun _ _ => rfl⟩⟩
          case measure => simp [intOf]
        · have HJ : Hid (cnt n 3 = 6) := by show _ = _; unfold cnt; omega
          have hm : bits .and .u8 (x3 : Int) 252 = ((mk 6 x3 : Nat) : Int) := mk_bits (m := 252) hxb (by omega) (by decide)
          have hml : mk 6 x3 ≤ 255 := mk_le hxb
          have HN : Hid ((wr.setCell ⟨w.heap.size, 3, none⟩ (u8V (mk 6 x3))).heap[w.heap.size]? = some (.cells #[u8V (x0), u8V (x1), u8V (x2), u8V (mk 6 x3)] 88 (0, 0)) ∧ [x0, x1, x2, mk 6 x3] = fbs n 4 a b c d) := by
            refine ⟨heap_setq _ HH.out.1, ?_⟩
            have e := HH.out.2
            simp [fbs, HJ.out] at e ⊢
            simp [e]
          have HB2 : Hid ((wr.setCell ⟨w.heap.size, 3, none⟩ (u8V (mk 6 x3))).heap[w.heap.size + 1]? = some (.cells zero4 88 (0, 0)) ∧ Below w.heap.size w (wr.setCell ⟨w.heap.size, 3, none⟩ (u8V (mk 6 x3)))) := ⟨by rw [Below.heap_setCell _ _ _ _ (by show w.heap.size + 1 ≠ w.heap.size; omega)]; exact HB.out.1, HB.out.2.setCell (p := ⟨w.heap.size, 3, none⟩) (Nat.le_refl _) _⟩
          clear hxb
          generalize mk 6 x3 = z at *
          have hN : (n : Int) = 30 := by omega
          clear hj hn
          go_wp2
          go_region
          go_wp2
          go_roundw
          case rel => exact ⟨4, by omega, rfl, ⟨x0, x1, x2, z, HN.out⟩, HB2.out.1, HB2.out.2.trans ⟨rfl, rfl, rfl, Nat.le_refl _, fun _ _ => rfl⟩⟩
          case measure => simp [intOf]
        · have HJ : Hid (cnt n 3 = 7) := by show _ = _; unfold cnt; omega
          have hm : bits .and .u8 (x3 : Int) 254 = ((mk 7 x3 : Nat) : Int) := mk_bits (m := 254) hxb (by omega) (by decide)
          have hml : mk 7 x3 ≤ 255 := mk_le hxb
          have HN : Hid ((wr.setCell ⟨w.heap.size, 3, none⟩ (u8V (mk 7 x3))).heap[w.heap.size]? = some (.cells #[u8V (x0), u8V (x1), u8V (x2), u8V (mk 7 x3)] 88 (0, 0)) ∧ [x0, x1, x2, mk 7 x3] = fbs n 4 a b c d) := by
            refine ⟨heap_setq _ HH.out.1, ?_⟩
            have e := HH.out.2
            simp [fbs, HJ.out] at e ⊢
            simp [e]
          have HB2 : Hid ((wr.setCell ⟨w.heap.size, 3, none⟩ (u8V (mk 7 x3))).heap[w.heap.size + 1]? = some (.cells zero4 88 (0, 0)) ∧ Below w.heap.size w (wr.setCell ⟨w.heap.size, 3, none⟩ (u8V (mk 7 x3)))) := ⟨by rw [Below.heap_setCell _ _ _ _ (by show w.heap.size + 1 ≠ w.heap.size; omega)]; exact HB.out.1, HB.out.2.setCell (p := ⟨w.heap.size, 3, none⟩) (Nat.le_refl _) _⟩
          clear hxb
          generalize mk 7 x3 = z at *
          have hN : (n : Int) = 31 := by omega
          clear hj hn
          go_wp2
          go_region
          go_wp2
          go_roundw
          case rel => exact ⟨4, by omega, rfl, ⟨x0, x1, x2, z, HN.out⟩, HB2.out.1, HB2.out.2.trans ⟨rfl, rfl, rfl, Nat.le_refl _, fun _ _ => rfl⟩⟩
          case measure => simp [intOf]
        · have HJ : Hid (cnt n 3 = 8) := by show _ = _; unfold cnt; omega
          have hm : bits .and .u8 (x3 : Int) 255 = ((mk 8 x3 : Nat) : Int) := mk_bits (m := 255) hxb (by omega) (by decide)
          have hml : mk 8 x3 ≤ 255 := mk_le hxb
          have HN : Hid ((wr.setCell ⟨w.heap.size, 3, none⟩ (u8V (mk 8 x3))).heap[w.heap.size]? = some (.cells #[u8V (x0), u8V (x1), u8V (x2), u8V (mk 8 x3)] 88 (0, 0)) ∧ [x0, x1, x2, mk 8 x3] = fbs n 4 a b c d) := by
            refine ⟨heap_setq _ HH.out.1, ?_⟩
            have e := HH.out.2
            simp [fbs, HJ.out] at e ⊢
            simp [e]
          have HB2 : Hid ((wr.setCell ⟨w.heap.size, 3, none⟩ (u8V (mk 8 x3))).heap[w.heap.size + 1]? = some (.cells zero4 88 (0, 0)) ∧ Below w.heap.size w (wr.setCell ⟨w.heap.size, 3, none⟩ (u8V (mk 8 x3)))) := ⟨by rw [Below.heap_setCell _ _ _ _ (by show w.heap.size + 1 ≠ w.heap.size; omega)]; exact HB.out.1, HB.out.2.setCell (p := ⟨w.heap.size, 3, none⟩) (Nat.le_refl _) _⟩
          clear hxb
          generalize mk 8 x3 = z at *
          have hN : (n : Int) = 32 := by omega
          clear hj hn
          go_wp2
          go_region
          go_wp2
          go_roundw
          case rel => exact ⟨4, by omega, rfl, ⟨x0, x1, x2, z, HN.out⟩, HB2.out.1, HB2.out.2.trans ⟨rfl, rfl, rfl, Nat.le_refl _, fun _ _ => rfl⟩⟩
          case measure => simp [intOf]
    · have e := HH.out.2
      simp [fbs] at e
      obtain ⟨e0, e1, e2, e3⟩ := e
      have HE : Hid (x0 = mk (cnt n 0) a ∧ x1 = mk (cnt n 1) b ∧ x2 = mk (cnt n 2) c ∧ x3 = mk (cnt n 3) d) := ⟨e0, e1, e2, e3⟩
      clear e0 e1 e2 e3
      obtain ⟨⟨m0, m1, m2, m3⟩, g0, g1, g2, g3⟩ := cells4 HB.out.1
      go_wp2
      have q := heap_setq (i := 3) (u8V x3) (heap_setq (i := 2) (u8V x2) (heap_setq (i := 1) (u8V x1) (heap_setq (i := 0) (u8V x0) HB.out.1)))
      obtain ⟨⟨q0, q1, q2, q3⟩, _⟩ := cells4 (a := u8V x0) (b := u8V x1) (c := u8V x2) (d := u8V x3) q
      refine bodyPost_ret (results_fb _ (w.heap.size + 1) _ rfl q0 q1 q2 q3) rfl ?_
      refine ⟨by rw [HE.out.1, HE.out.2.1, HE.out.2.2.1, HE.out.2.2.2], ?_⟩
      exact (((HB.out.2.setCell (p := ⟨w.heap.size + 1, 0, none⟩) (by show w.heap.size ≤ w.heap.size + 1; omega) _).setCell (p := ⟨w.heap.size + 1, 1, none⟩) (by show w.heap.size ≤ w.heap.size + 1; omega) _).setCell (p := ⟨w.heap.size + 1, 2, none⟩) (by show w.heap.size ≤ w.heap.size + 1; omega) _).setCell (p := ⟨w.heap.size + 1, 3, none⟩) (by show w.heap.size ≤ w.heap.size + 1; omega) _

end Go.Proofs.YtjakjbfeaiempaaDoor
