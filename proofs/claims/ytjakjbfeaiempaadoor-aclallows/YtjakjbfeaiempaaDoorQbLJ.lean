/- What acl's schemeOf answers for ip. -/
import Derived.Test.YtjakjbfeaiempaaDoorQbIJ
namespace Go.Proofs.YtjakjbfeaiempaaDoor
open Go.RowKit Go.Shelf
set_option maxRecDepth 8000

theorem store_func (P : Program) (w : World) (a : Addr) (m : Mode) (f : Fn) (x y : Array Value) : (store a (.func f x y) m).run P w = stored P w a (.func f x y) m := run_store P w a _ m rfl

theorem results_so (tm : Array Value) (n : Nat) (WW : World) {a b c e : Value} (h2 : tm.getD 2 undef = .pointer (some ⟨n, 0, none⟩))
    (m0 : WW.cell? ⟨n, 0, none⟩ = some a) (m1 : WW.cell? ⟨n, 1, none⟩ = some b) (m2 : WW.cell? ⟨n, 2, none⟩ = some c) (m3 : WW.cell? ⟨n, 3, none⟩ = some e) :
    (results Tryd.f39 tm).run Tryd.prog WW = .ok (.agg #[a, b, c, e]) WW := by
  have hres : Tryd.f39.results = #[.cell 2 61] := by kernel_rfl
  have h2' : tm[2]?.getD undef = .pointer (some ⟨n, 0, none⟩) := by rw [← Array.getD_eq_getD_getElem?]; exact h2
  simp only [results, hres]
  go_simp

/-- Four cells stored. -/
def set4 (n : Nat) (a b c d : Value) (w : World) : World := (((w.setCell ⟨n, 0, none⟩ a).setCell ⟨n, 1, none⟩ b).setCell ⟨n, 2, none⟩ c).setCell ⟨n, 3, none⟩ d

theorem set4_at {n : Nat} {x y z u a b c d : Value} {T : TypeId} {w : World} (h0 : w.heap[n]? = some (.cells #[x, y, z, u] T (0, 0))) :
    (set4 n a b c d w).heap[n]? = some (.cells #[a, b, c, d] T (0, 0)) ∧ (∀ k, k ≠ n → (set4 n a b c d w).heap[k]? = w.heap[k]?) ∧ (set4 n a b c d w).heap.size = w.heap.size ∧ ∀ (B : Nat) (v : World), B ≤ n → Below B v w → Below B v (set4 n a b c d w) := by
  refine ⟨?_, fun k hk => ?_, by simp [set4], fun B v hB h => ?_⟩
  · unfold set4
    exact heap_setq _ (heap_setq _ (heap_setq _ (heap_setq _ h0)))
  · unfold set4
    rw [Below.heap_setCell _ _ _ _ hk, Below.heap_setCell _ _ _ _ hk, Below.heap_setCell _ _ _ _ hk, Below.heap_setCell _ _ _ _ hk]
  · exact (((h.setCell (p := ⟨n, 0, none⟩) hB _).setCell (p := ⟨n, 1, none⟩) hB _).setCell (p := ⟨n, 2, none⟩) hB _).setCell (p := ⟨n, 3, none⟩) hB _

theorem rows_at0 (c : Nat) (W : World) : (Instr.index 70 (.agg (rowsV c).toArray) (.int .i64 0)).run Tryd.prog W = .ok (.agg #[.string worldB, fnV 54, fn1 75 c, fnV 63]) W := by
  kernel_rfl

theorem rows_at1 (c : Nat) (W : World) : (Instr.index 70 (.agg (rowsV c).toArray) (.int .i64 1)).run Tryd.prog W = .ok (.agg #[.string ipB, fnV 64, fnV 65, fn2 78 (c + 1)]) W := by
  kernel_rfl

set_option maxHeartbeats 1000000 in
theorem schemeOf_ip (nm : ByteArray) (w : World) : Calls Tryd.prog 39 #[.agg #[.string ipB, .string nm]] w fun e w' => ∃ c, e = .returned (.agg #[.string ipB, fnV 64, fnV 65, fn2 78 (c + 1)]) ∧ Below w.heap.size w w' ∧ Cau c w' ∧ w.heap.size ≤ c ∧ c + 6 ≤ w'.heap.size := by
  have HS : Hid _ := fun w => schemes_any w
  have hsf := store_func
  have hr0 := rows_at0
  have hr1 := rows_at1
  go_enter Tryd.func39, Tryd.ntmps39
  go_wp2_with fail
  refine (HS.out _).mono ?_
  rintro e w1 ⟨rfl, hB1, hC1, hz1⟩
  obtain ⟨V, hV⟩ : ∃ V, V = (w.alloc (.cells #[.string ipB, .string nm] 37)).alloc (.cells #[.string ⟨#[]⟩, .nilFunc, .nilFunc, .nilFunc] 61) := ⟨_, rfl⟩
  have v0 : V.heap[w.heap.size]? = some (.cells #[.string ipB, .string nm] 37 (0, 0)) := by
    rw [hV, Below.heap_alloc _ _ _ (by simp only [World.size_alloc]; omega)]; exact alloc_newq rfl
  have v1 : V.heap[w.heap.size + 1]? = some (.cells #[.string ⟨#[]⟩, .nilFunc, .nilFunc, .nilFunc] 61 (0, 0)) := by
    rw [hV]; exact alloc_newq (by simp only [World.size_alloc])
  have vB : Below w.heap.size w V := by rw [hV]; exact ((Below.refl _ w).alloc (Nat.le_refl _) _).alloc (by simp only [World.size_alloc]; omega) _
  have vz : V.heap.size = w.heap.size + 2 := by rw [hV]; simp only [World.size_alloc]
  rw [← hV] at hB1 hC1 hz1
  have HA : Hid (w1.heap[w.heap.size]? = some (.cells #[.string ipB, .string nm] 37 (0, 0)) ∧ w1.heap[w.heap.size + 1]? = some (.cells #[.string ⟨#[]⟩, .nilFunc, .nilFunc, .nilFunc] 61 (0, 0)) ∧ Below w.heap.size w w1 ∧ Cau (w.heap.size + 3) w1 ∧ w.heap.size + 9 ≤ w1.heap.size) := by
    refine ⟨(hB1.block _ (by omega)).trans v0, (hB1.block _ (by omega)).trans v1, vB.trans (hB1.mono (by omega)), ?_, by omega⟩
    rw [vz] at hC1
    exact hC1
  clear hB1 hC1 hz1 v0 v1 vB vz hV
  go_wp2
  go_loopw [6] (fun vi wr => ∃ (k : Nat), k ≤ 1 ∧ vi = .int .i64 (k : Int) ∧ Hid (Below w1.heap.size w1 wr)) (fun vi _ => 4 - (intOf vi).toNat)
  case atStart => exact ⟨0, by omega, rfl, Below.refl _ _⟩
  case round =>
    obtain ⟨k, hk, rfl, HB⟩ := hrel
    have q0 : wr.heap[w.heap.size]? = some (.cells #[.string ipB, .string nm] 37 (0, 0)) := (HB.out.block _ (by have := HA.out.2.2.2.2; omega)).trans HA.out.1
    have q1 : wr.heap[w.heap.size + 1]? = some (.cells #[.string ⟨#[]⟩, .nilFunc, .nilFunc, .nilFunc] 61 (0, 0)) := (HB.out.block _ (by have := HA.out.2.2.2.2; omega)).trans HA.out.2.1
    have hlt : w.heap.size + 1 < wr.heap.size := lt_of_block q1
    have hlt0 : w.heap.size < wr.heap.size := by omega
    have i0 : wr.cell? ⟨w.heap.size, 0, none⟩ = some (.string ipB) := cell_of_row wr w.heap.size 0 _ _ _ q0
    obtain ⟨⟨y0, y1, y2, y3⟩, f0, f1, f2, f3⟩ := cells4 q1
    have hk2 : k = 0 ∨ k = 1 := by omega
    rcases hk2 with rfl | rfl
    · clear q0 q1
      go_wp2
      go_roundw
      case rel => exact ⟨1, by omega, rfl, HB.out.alloc HB.out.size _⟩
      case measure => simp [intOf]
    · have HQ : Hid (wr.heap[w.heap.size + 1]? = some (.cells #[.string ⟨#[]⟩, .nilFunc, .nilFunc, .nilFunc] 61 (0, 0))) := q1
      clear q0 q1
      go_wp2
      obtain ⟨p0, p1, p2, p3⟩ := set4_at (a := .string ipB) (b := fnV 64) (c := fnV 65) (d := fn2 78 (w.heap.size + 3 + 1)) HQ.out
      have hB : Below w.heap.size w wr := HA.out.2.2.1.trans (HB.out.mono HA.out.2.2.1.size)
      have hz : w.heap.size + 9 ≤ wr.heap.size := by have := HB.out.size; have := HA.out.2.2.2.2; omega
      obtain ⟨X, hX⟩ : ∃ X, X = (set4 (w.heap.size + 1) (.string ipB) (fnV 64) (fnV 65) (fn2 78 (w.heap.size + 3 + 1)) wr).alloc (.cells #[.string ipB, fnV 64, fnV 65, fn2 78 (w.heap.size + 3 + 1)] 61) := ⟨_, rfl⟩
      have x1 : X.heap[w.heap.size + 1]? = some (.cells #[.string ipB, fnV 64, fnV 65, fn2 78 (w.heap.size + 3 + 1)] 61 (0, 0)) := by
        rw [hX, Below.heap_alloc _ _ _ (by rw [p2]; omega)]; exact p0
      have xk : ∀ k, k ≠ w.heap.size + 1 → k < wr.heap.size → X.heap[k]? = wr.heap[k]? := fun k hk hl => by
        rw [hX, Below.heap_alloc _ _ _ (by rw [p2]; exact hl)]; exact p1 k hk
      have xB : Below w.heap.size w X := by
        rw [hX]; exact (p3 _ _ (by omega) hB).alloc (by rw [p2]; omega) _
      have xz : X.heap.size = wr.heap.size + 1 := by rw [hX, World.size_alloc, p2]
      have hC := HA.out.2.2.2.1
      have xC : Cau (w.heap.size + 3) X := by
        have hCr : Cau (w.heap.size + 3) wr := hC.below HB.out (by have := HA.out.2.2.2.2; omega)
        exact ⟨(xk _ (by omega) (by omega)).trans hCr.1, (xk _ (by omega) (by omega)).trans hCr.2.1, (xk _ (by omega) (by omega)).trans hCr.2.2.1, (xk _ (by omega) (by omega)).trans hCr.2.2.2.1, (xk _ (by omega) (by omega)).trans hCr.2.2.2.2.1, (xk _ (by omega) (by omega)).trans hCr.2.2.2.2.2⟩
      obtain ⟨⟨m0, m1, m2, m3⟩, _⟩ := cells4 x1
      show bodyPost _ _ _ _ _ ((set4 (w.heap.size + 1) (.string ipB) (fnV 64) (fnV 65) (fn2 78 (w.heap.size + 3 + 1)) wr).alloc (.cells #[.string ipB, fnV 64, fnV 65, fn2 78 (w.heap.size + 3 + 1)] 61))
      rw [← hX]
      refine bodyPost_ret (results_so _ (w.heap.size + 1) _ rfl m0 m1 m2 m3) rfl ?_
      exact ⟨w.heap.size + 3, rfl, xB, xC, by omega, by omega⟩

end Go.Proofs.YtjakjbfeaiempaaDoor

/- What acl's isOfEntry and isOfClient answer for ip. -/
namespace Go.Proofs.YtjakjbfeaiempaaDoor
open Go.RowKit Go.Shelf
set_option maxRecDepth 8000

/-- An id in memory; what lay below lies as it lay. -/
def PId (nm : ByteArray) (w V : World) : Prop := V.heap[w.heap.size]? = some (.cells #[.string ipB, .string nm] 37 (0, 0)) ∧ Below w.heap.size w V

theorem PId.below {nm : ByteArray} {w V V' : World} (h : PId nm w V) (hB : Below V.heap.size V V') : PId nm w V' :=
  ⟨(hB.block _ (lt_of_block h.1)).trans h.1, h.2.trans (hB.mono h.2.size)⟩

theorem field_at (c : Nat) (W : World) : (Instr.field 61 (.agg #[.string ipB, fnV 64, fnV 65, fn2 78 (c + 1)]) 1).run Tryd.prog W = .ok (fnV 64) W ∧ (Instr.field 61 (.agg #[.string ipB, fnV 64, fnV 65, fn2 78 (c + 1)]) 2).run Tryd.prog W = .ok (fnV 65) W ∧ (Instr.field 61 (.agg #[.string ipB, fnV 64, fnV 65, fn2 78 (c + 1)]) 3).run Tryd.prog W = .ok (fn2 78 (c + 1)) W :=
  ⟨by kernel_rfl, by kernel_rfl, by kernel_rfl⟩

set_option maxHeartbeats 1000000 in
theorem isOfEntry_ip (nm : ByteArray) (hs : nm.size ≤ 4294967296) (w : World) : Calls Tryd.prog 37 #[.agg #[.string ipB, .string nm]] w fun e w' => e = .returned (.bool (rngD nm.data.toList).isSome) ∧ Below w.heap.size w w' := by
  obtain ⟨b, hb⟩ : ∃ b, b = (rngD nm.data.toList).isSome := ⟨_, rfl⟩
  have HR : Hid (∀ V, Hid (PId nm w V) → Calls Tryd.prog 65 #[.string nm] V fun e w' => e = .returned (.bool b) ∧ Hid (PId nm w w')) := fun V hV => by
    rw [hb]
    exact (isRange_any nm hs V).mono (fun e w' h => ⟨h.1, hV.out.below h.2⟩)
  rw [← hb]
  clear hb
  have HS : Hid (∀ V, Hid (PId nm w V) → Calls Tryd.prog 39 #[.agg #[.string ipB, .string nm]] V fun e w' => ∃ c, e = .returned (.agg #[.string ipB, fnV 64, fnV 65, fn2 78 (c + 1)]) ∧ Hid (PId nm w w') ∧ w'.cell? ⟨w.heap.size, 1, none⟩ = some (.string nm)) := fun V hV =>
    (schemeOf_ip nm V).mono (fun e w' ⟨c, h1, h2, _⟩ => ⟨c, h1, hV.out.below h2, cell_of_row w' w.heap.size 1 _ _ _ (hV.out.below h2).1⟩)
  have hP : PId nm w (w.alloc (.cells #[.string ipB, .string nm] 37)) := ⟨heap_alloc_new w _, (Below.refl _ w).alloc (Nat.le_refl _) _⟩
  have HW : Hid (PId nm w (w.alloc (.cells #[.string ipB, .string nm] 37)).drew) := hP.below ⟨rfl, rfl, rfl, Nat.le_refl _, fun _ _ => rfl⟩
  have hfd := fun c W => (field_at c W).2.1
  clear hP
  go_enter Tryd.func37, Tryd.ntmps37
  go_wp2_with fail
  go_region_with (first | (go_at_call 39; refine (HS.out _ HW).mono ?_; rintro e w3 ⟨c, rfl, hS, j1⟩) | (go_at_call 65; refine (HR.out _ hS).mono ?_; rintro e w4 ⟨rfl, hS4⟩))
  all_goals go_wp2
  all_goals (go_ret; exact ⟨rfl, hS4.out.2⟩)

set_option maxHeartbeats 1000000 in
theorem isOfClient_ip (nm : ByteArray) (hs : nm.size ≤ 4294967296) (w : World) : Calls Tryd.prog 25 #[.agg #[.string ipB, .string nm]] w fun e w' => e = .returned (.bool (adD nm.data.toList).isSome) ∧ Below w.heap.size w w' := by
  obtain ⟨b, hb⟩ : ∃ b, b = (adD nm.data.toList).isSome := ⟨_, rfl⟩
  have HR : Hid (∀ V, Hid (PId nm w V) → Calls Tryd.prog 64 #[.string nm] V fun e w' => e = .returned (.bool b) ∧ Hid (PId nm w w')) := fun V hV => by
    rw [hb]
    exact (isAddress_any nm hs V).mono (fun e w' h => ⟨h.1, hV.out.below h.2⟩)
  rw [← hb]
  clear hb
  have HS : Hid (∀ V, Hid (PId nm w V) → Calls Tryd.prog 39 #[.agg #[.string ipB, .string nm]] V fun e w' => ∃ c, e = .returned (.agg #[.string ipB, fnV 64, fnV 65, fn2 78 (c + 1)]) ∧ Hid (PId nm w w') ∧ w'.cell? ⟨w.heap.size, 1, none⟩ = some (.string nm)) := fun V hV =>
    (schemeOf_ip nm V).mono (fun e w' ⟨c, h1, h2, _⟩ => ⟨c, h1, hV.out.below h2, cell_of_row w' w.heap.size 1 _ _ _ (hV.out.below h2).1⟩)
  have hP : PId nm w (w.alloc (.cells #[.string ipB, .string nm] 37)) := ⟨heap_alloc_new w _, (Below.refl _ w).alloc (Nat.le_refl _) _⟩
  have HW : Hid (PId nm w (w.alloc (.cells #[.string ipB, .string nm] 37)).drew) := hP.below ⟨rfl, rfl, rfl, Nat.le_refl _, fun _ _ => rfl⟩
  have hfd := fun c W => (field_at c W).1
  clear hP
  go_enter Tryd.func25, Tryd.ntmps25
  go_wp2_with fail
  go_region_with (first | (go_at_call 39; refine (HS.out _ HW).mono ?_; rintro e w3 ⟨c, rfl, hS, j1⟩) | (go_at_call 64; refine (HR.out _ hS).mono ?_; rintro e w4 ⟨rfl, hS4⟩))
  all_goals go_wp2
  all_goals (go_ret; exact ⟨rfl, hS4.out.2⟩)

end Go.Proofs.YtjakjbfeaiempaaDoor

/- What the function that acl.by makes for ip answers. -/
namespace Go.Proofs.YtjakjbfeaiempaaDoor
open Go.RowKit Go.Shelf
set_option maxRecDepth 8000

set_option maxHeartbeats 1000000 in
theorem by1_ip (nm wn : ByteArray) (hs : nm.size ≤ 4294967296) (ht : wn.size ≤ 4294967296) (c : Nat) (w : World) (hC : Cau c w) (hz : c + 6 ≤ w.heap.size) :
    Calls Tryd.prog 78 #[.string nm, .agg #[.string ipB, .string wn], .pointer (some ⟨c + 1, 0, none⟩), .pointer (some ⟨c + 2, 0, none⟩)] w fun e w' => e = .returned (.bool (witD nm.data.toList wn.data.toList)) ∧ Below w.heap.size w w' := by
  obtain ⟨b, hb⟩ : ∃ b, b = witD nm.data.toList wn.data.toList := ⟨_, rfl⟩
  have HW : Hid (∀ V, Calls Tryd.prog 67 #[.string nm, .string wn] V fun e w' => e = .returned (.bool b) ∧ Below V.heap.size V w') := fun V => by rw [hb]; exact isWithin_any nm wn hs ht V
  rw [← hb]
  clear hb
  have q0 : (w.alloc (.cells #[.string ipB, .string wn] 37)).heap[w.heap.size]? = some (.cells #[.string ipB, .string wn] 37 (0, 0)) := heap_alloc_new w _
  have q1 : (w.alloc (.cells #[.string ipB, .string wn] 37)).heap[c + 1]? = some (.cells #[.string ipB] 9 (0, 0)) := by rw [Below.heap_alloc _ _ _ (by omega)]; exact hC.2.1
  have q2 : (w.alloc (.cells #[.string ipB, .string wn] 37)).heap[c + 2]? = some (.cells #[fnV 67] 79 (0, 0)) := by rw [Below.heap_alloc _ _ _ (by omega)]; exact hC.2.2.1
  have c0 := cell_of_row _ w.heap.size 0 _ _ _ q0
  have c1 := cell_of_row _ w.heap.size 1 _ _ _ q0
  have c2 := cell_of_row _ (c + 1) 0 _ _ _ q1
  have c3 := cell_of_row _ (c + 2) 0 _ _ _ q2
  have d0 : (w.alloc (.cells #[.string ipB, .string wn] 37)).cell? ⟨w.heap.size, 0, none⟩ = some (.string ipB) := c0
  have d1 : (w.alloc (.cells #[.string ipB, .string wn] 37)).cell? ⟨w.heap.size, 1, none⟩ = some (.string wn) := c1
  have d2 : (w.alloc (.cells #[.string ipB, .string wn] 37)).cell? ⟨c + 1, 0, none⟩ = some (.string ipB) := c2
  have d3 : (w.alloc (.cells #[.string ipB, .string wn] 37)).cell? ⟨c + 2, 0, none⟩ = some (fnV 67) := c3
  have e2 : w.cell? ⟨c + 1, 0, none⟩ = some (.string ipB) := cell_of_row _ (c + 1) 0 _ _ _ hC.2.1
  have e3 : w.cell? ⟨c + 2, 0, none⟩ = some (fnV 67) := cell_of_row _ (c + 2) 0 _ _ _ hC.2.2.1
  have l1 : c + 1 < w.heap.size := by omega
  have l2 : c + 2 < w.heap.size := by omega
  have HB : Hid (Below w.heap.size w (w.alloc (.cells #[.string ipB, .string wn] 37))) := (Below.refl _ w).alloc (Nat.le_refl _) _
  have HL : Hid (w.heap.size ≤ (w.alloc (.cells #[.string ipB, .string wn] 37)).heap.size) := HB.out.size
  clear c0 c1 c2 c3 q0 q1 q2 hC
  go_enter Tryd.func78, Tryd.ntmps78
  go_wp2_with (go_at_call 67; refine (HW.out _).mono ?_; rintro e w4 ⟨rfl, hS4⟩)
  all_goals (go_ret; exact ⟨rfl, HB.out.trans (hS4.mono HL.out)⟩)

end Go.Proofs.YtjakjbfeaiempaaDoor
