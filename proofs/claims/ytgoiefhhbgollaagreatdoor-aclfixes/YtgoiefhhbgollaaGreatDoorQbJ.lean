/- What acl's schemeOf answers for ip. -/
import Derived.Test.YtgoiefhhbgollaaGreatDoorQbI
namespace Go.Proofs.YtgoiefhhbgollaaGreatDoor
open Go.RowKit Go.Shelf
set_option maxRecDepth 8000

theorem store_func (P : Program) (w : World) (a : Addr) (m : Mode) (f : Fn) (x y : Array Value) : (store a (.func f x y) m).run P w = stored P w a (.func f x y) m := run_store P w a _ m rfl

theorem results_so (tm : Array Value) (n : Nat) (WW : World) {a b c e : Value} (h2 : tm.getD 2 undef = .pointer (some ⟨n, 0, none⟩))
    (m0 : WW.cell? ⟨n, 0, none⟩ = some a) (m1 : WW.cell? ⟨n, 1, none⟩ = some b) (m2 : WW.cell? ⟨n, 2, none⟩ = some c) (m3 : WW.cell? ⟨n, 3, none⟩ = some e) :
    (results Tryz.f95 tm).run Tryz.prog WW = .ok (.agg #[a, b, c, e]) WW := by
  have hres : Tryz.f95.results = #[.cell 2 187] := by kernel_rfl
  have h2' : tm[2]?.getD undef = .pointer (some ⟨n, 0, none⟩) := by rw [← Array.getD_eq_getD_getElem?]; exact h2
  simp only [results, hres]
  go_simp

/-- Four cells stored. -/
def set4 (n : Nat) (a b c d : Value) (w : World) : World := (((w.setCell ⟨n, 0, none⟩ a).setCell ⟨n, 1, none⟩ b).setCell ⟨n, 2, none⟩ c).setCell ⟨n, 3, none⟩ d

theorem set4_at {n : Nat} {x y z u a b c d : Value} {T : TypeId} {w : World} (h0 : w.heap[n]? = some (.cells #[x, y, z, u] T (0, 0))) :
    (set4 n a b c d w).heap[n]? = some (.cells #[a, b, c, d] T (0, 0)) ∧ (∀ k, k ≠ n → (set4 n a b c d w).heap[k]? = w.heap[k]?) ∧ (set4 n a b c d w).heap.size = w.heap.size ∧ ∀ (B : Nat) (v : World), B ≤ n → Below B v w → Below B v (set4 n a b c d w) := by
  refine ⟨?_, fun k hk => ?_, by simp [set4], fun B v hB h => ?_⟩
  · unfold set4
    exact heap_setq _ (heap_setq _ (heap_setq _ (heap_setq _ h0)))
  · unfold set4
    rw [Below.heap_setCell _ _ _ _ hk, Below.heap_setCell _ _ _ _ hk, Below.heap_setCell _ _ _ _ hk, Below.heap_setCell _ _ _ _ hk]
  · exact (((h.setCell (p := ⟨n, 0, none⟩) hB _).setCell (p := ⟨n, 1, none⟩) hB _).setCell (p := ⟨n, 2, none⟩) hB _).setCell (p := ⟨n, 3, none⟩) hB _

theorem rows_at0 (c : Nat) (W : World) : (Instr.index 195 (.agg (rowsV c).toArray) (.int .i64 0)).run Tryz.prog W = .ok (.agg #[.string worldB, fnV 103, fn1 122 c, fnV 110]) W := by
  kernel_rfl

theorem rows_at1 (c : Nat) (W : World) : (Instr.index 195 (.agg (rowsV c).toArray) (.int .i64 1)).run Tryz.prog W = .ok (.agg #[.string ipB, fnV 111, fnV 112, fn2 125 (c + 1)]) W := by
  kernel_rfl

set_option maxHeartbeats 1000000 in
theorem schemeOf_ip (nm : ByteArray) (w : World) : Calls Tryz.prog 95 #[.agg #[.string ipB, .string nm]] w fun e w' => ∃ c, e = .returned (.agg #[.string ipB, fnV 111, fnV 112, fn2 125 (c + 1)]) ∧ Below w.heap.size w w' ∧ Cau c w' ∧ w.heap.size ≤ c ∧ c + 6 ≤ w'.heap.size := by
  have HS : Hid _ := fun w => schemes_any w
  have hsf := store_func
  have hr0 := rows_at0
  have hr1 := rows_at1
  go_enter Tryz.func95, Tryz.ntmps95
  go_wp2_with fail
  refine (HS.out _).mono ?_
  rintro e w1 ⟨rfl, hB1, hC1, hz1⟩
  obtain ⟨V, hV⟩ : ∃ V, V = (w.alloc (.cells #[.string ipB, .string nm] 37)).alloc (.cells #[.string ⟨#[]⟩, .nilFunc, .nilFunc, .nilFunc] 187) := ⟨_, rfl⟩
  have v0 : V.heap[w.heap.size]? = some (.cells #[.string ipB, .string nm] 37 (0, 0)) := by
    rw [hV, Below.heap_alloc _ _ _ (by simp only [World.size_alloc]; omega)]; exact alloc_newq rfl
  have v1 : V.heap[w.heap.size + 1]? = some (.cells #[.string ⟨#[]⟩, .nilFunc, .nilFunc, .nilFunc] 187 (0, 0)) := by
    rw [hV]; exact alloc_newq (by simp only [World.size_alloc])
  have vB : Below w.heap.size w V := by rw [hV]; exact ((Below.refl _ w).alloc (Nat.le_refl _) _).alloc (by simp only [World.size_alloc]; omega) _
  have vz : V.heap.size = w.heap.size + 2 := by rw [hV]; simp only [World.size_alloc]
  rw [← hV] at hB1 hC1 hz1
  have HA : Hid (w1.heap[w.heap.size]? = some (.cells #[.string ipB, .string nm] 37 (0, 0)) ∧ w1.heap[w.heap.size + 1]? = some (.cells #[.string ⟨#[]⟩, .nilFunc, .nilFunc, .nilFunc] 187 (0, 0)) ∧ Below w.heap.size w w1 ∧ Cau (w.heap.size + 3) w1 ∧ w.heap.size + 9 ≤ w1.heap.size) := by
    refine ⟨(hB1.block _ (by omega)).trans v0, (hB1.block _ (by omega)).trans v1, vB.trans (hB1.mono (by omega)), ?_, by omega⟩
    rw [vz] at hC1
    exact hC1
  clear hB1 hC1 hz1 v0 v1 vB vz hV
  go_wp2
  go_loopw [6] (fun vi wr => ∃ (k : Nat), k ≤ 1 ∧ vi = .int .i64 (k : Int) ∧ Hid (Below w1.heap.size w1 wr)) (fun vi _ => 4 - (intOf vi).toNat)
  case atStart => exact ⟨0, by omega, rfl, Below.refl _ _⟩
  case round =>
    obtain ⟨k, hk, rfl, HB⟩ := hrel
    have q0 : wr.heap[w.heap.size]? = some (.cells #[.string ipB, .string nm] 37 (0, 0)) := (HB.out.block _ (by have := HA.out.2.2.2.2; omega)).trans HA.out.1
    have q1 : wr.heap[w.heap.size + 1]? = some (.cells #[.string ⟨#[]⟩, .nilFunc, .nilFunc, .nilFunc] 187 (0, 0)) := (HB.out.block _ (by have := HA.out.2.2.2.2; omega)).trans HA.out.2.1
    have hlt : w.heap.size + 1 < wr.heap.size := lt_of_block q1
    have hlt0 : w.heap.size < wr.heap.size := by omega
    have i0 : wr.cell? ⟨w.heap.size, 0, none⟩ = some (.string ipB) := cell_of_row wr w.heap.size 0 _ _ _ q0
    obtain ⟨⟨y0, y1, y2, y3⟩, f0, f1, f2, f3⟩ := cells4 q1
    have hk2 : k = 0 ∨ k = 1 := by omega
    rcases hk2 with rfl | rfl
    · clear q0 q1
      go_wp2
      go_roundw
      case rel => exact ⟨1, by omega, rfl, HB.out.alloc HB.out.size _⟩
      case measure => simp [intOf]
    · have HQ : Hid (wr.heap[w.heap.size + 1]? = some (.cells #[.string ⟨#[]⟩, .nilFunc, .nilFunc, .nilFunc] 187 (0, 0))) := q1
      clear q0 q1
      go_wp2
      obtain ⟨p0, p1, p2, p3⟩ := set4_at (a := .string ipB) (b := fnV 111) (c := fnV 112) (d := fn2 125 (w.heap.size + 3 + 1)) HQ.out
      have hB : Below w.heap.size w wr := HA.out.2.2.1.trans (HB.out.mono HA.out.2.2.1.size)
      have hz : w.heap.size + 9 ≤ wr.heap.size := by have := HB.out.size; have := HA.out.2.2.2.2; omega
      obtain ⟨X, hX⟩ : ∃ X, X = (set4 (w.heap.size + 1) (.string ipB) (fnV 111) (fnV 112) (fn2 125 (w.heap.size + 3 + 1)) wr).alloc (.cells #[.string ipB, fnV 111, fnV 112, fn2 125 (w.heap.size + 3 + 1)] 187) := ⟨_, rfl⟩
      have x1 : X.heap[w.heap.size + 1]? = some (.cells #[.string ipB, fnV 111, fnV 112, fn2 125 (w.heap.size + 3 + 1)] 187 (0, 0)) := by
        rw [hX, Below.heap_alloc _ _ _ (by rw [p2]; omega)]; exact p0
      have xk : ∀ k, k ≠ w.heap.size + 1 → k < wr.heap.size → X.heap[k]? = wr.heap[k]? := fun k hk hl => by
        rw [hX, Below.heap_alloc _ _ _ (by rw [p2]; exact hl)]; exact p1 k hk
      have xB : Below w.heap.size w X := by
        rw [hX]; exact (p3 _ _ (by omega) hB).alloc (by rw [p2]; omega) _
      have xz : X.heap.size = wr.heap.size + 1 := by rw [hX, World.size_alloc, p2]
      have hC := HA.out.2.2.2.1
      have xC : Cau (w.heap.size + 3) X := by
        have hCr : Cau (w.heap.size + 3) wr := hC.below HB.out (by have := HA.out.2.2.2.2; omega)
        exact ⟨(xk _ (by omega) (by omega)).trans hCr.1, (xk _ (by omega) (by omega)).trans hCr.2.1, (xk _ (by omega) (by omega)).trans hCr.2.2.1, (xk _ (by omega) (by omega)).trans hCr.2.2.2.1, (xk _ (by omega) (by omega)).trans hCr.2.2.2.2.1, (xk _ (by omega) (by omega)).trans hCr.2.2.2.2.2⟩
      obtain ⟨⟨m0, m1, m2, m3⟩, _⟩ := cells4 x1
      show bodyPost _ _ _ _ _ ((set4 (w.heap.size + 1) (.string ipB) (fnV 111) (fnV 112) (fn2 125 (w.heap.size + 3 + 1)) wr).alloc (.cells #[.string ipB, fnV 111, fnV 112, fn2 125 (w.heap.size + 3 + 1)] 187))
      rw [← hX]
      refine bodyPost_ret (results_so _ (w.heap.size + 1) _ rfl m0 m1 m2 m3) rfl ?_
      exact ⟨w.heap.size + 3, rfl, xB, xC, by omega, by omega⟩

end Go.Proofs.YtgoiefhhbgollaaGreatDoor
