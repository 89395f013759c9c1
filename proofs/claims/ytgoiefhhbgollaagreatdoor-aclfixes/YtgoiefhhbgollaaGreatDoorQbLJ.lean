/- What acl's rows of schemes are. -/
import Derived.Test.YtgoiefhhbgollaaGreatDoorQbHJ
import Derived.Deep.MidRow
namespace Go.Proofs.YtgoiefhhbgollaaGreatDoor
open Go.RowKit Go.Shelf
set_option maxRecDepth 8000

theorem only_any (s : ByteArray) (w : World) : Calls Tryz.prog 109 #[.string s] w fun e w' => e = .returned (.func (.func 122) #[] #[.pointer (some ⟨w.heap.size, 0, none⟩)]) ∧ w' = w.alloc (.cells #[.string s] 9) := by
  have hmf : ∀ (fn : Fn) (first cap : Array Value) (w : World), (Instr.makeFunc fn first cap).run Tryz.prog w = .ok (.func fn first cap) w := fun _ _ _ _ => rfl
  go_enter Tryz.func109, Tryz.ntmps109
  go_wp2
  go_ret
  exact ⟨rfl, rfl⟩

theorem by_any (s : ByteArray) (g : Nat) (w : World) : Calls Tryz.prog 113 #[.string s, .func (.func g) #[] #[]] w fun e w' => e = .returned (.func (.func 125) #[] #[.pointer (some ⟨w.heap.size, 0, none⟩), .pointer (some ⟨w.heap.size + 1, 0, none⟩)]) ∧ w' = (w.alloc (.cells #[.string s] 9)).alloc (.cells #[.func (.func g) #[] #[]] 205) := by
  have hmf : ∀ (fn : Fn) (first cap : Array Value) (w : World), (Instr.makeFunc fn first cap).run Tryz.prog w = .ok (.func fn first cap) w := fun _ _ _ _ => rfl
  go_enter Tryz.func113, Tryz.ntmps113
  go_wp2
  go_ret
  exact ⟨rfl, rfl⟩

theorem there_of_row {w : World} {b n : Nat} {cs : Array Value} {T : TypeId} (h : w.heap[b]? = some (.cells cs T (0, 0))) (hn : n ≤ cs.size) : w.there b 0 n := fun j hj => by
  refine ⟨?_, ?_⟩
  · have := cell_of_row w b (0 + j) _ _ _ h
    rw [this, Array.getElem?_eq_getElem (by omega)]
    rfl
  · exact frozen_of_row w b (0 + j) _ _ h

abbrev fnV (g : Nat) : Value := .func (.func g) #[] #[]
abbrev fn1 (g c : Nat) : Value := .func (.func g) #[] #[.pointer (some ⟨c, 0, none⟩)]
abbrev fn2 (g c : Nat) : Value := .func (.func g) #[] #[.pointer (some ⟨c, 0, none⟩), .pointer (some ⟨c + 1, 0, none⟩)]
abbrev worldB : ByteArray := ⟨#[119, 111, 114, 108, 100]⟩
abbrev ipB : ByteArray := ⟨#[105, 112]⟩
abbrev nameB : ByteArray := ⟨#[110, 97, 109, 101]⟩
abbrev authB : ByteArray := ⟨#[97, 117, 116, 104]⟩
abbrev anyB : ByteArray := ⟨#[97, 110, 121, 111, 110, 101]⟩

/-- The four rows; c: the first of six new blocks. -/
abbrev rowsV (c : Nat) : List Value := [.string worldB, fnV 103, fn1 122 c, fnV 110, .string ipB, fnV 111, fnV 112, fn2 125 (c + 1), .string nameB, fnV 115, fnV 115, fn2 125 (c + 3), .string authB, fnV 103, fn1 122 (c + 5), fnV 104]

/-- What the rows' functions have caught. -/
def Cau (c : Nat) (w : World) : Prop := w.heap[c]? = some (.cells #[.string anyB] 9 (0, 0)) ∧ w.heap[c + 1]? = some (.cells #[.string ipB] 9 (0, 0)) ∧ w.heap[c + 2]? = some (.cells #[fnV 114] 205 (0, 0)) ∧ w.heap[c + 3]? = some (.cells #[.string nameB] 9 (0, 0)) ∧ w.heap[c + 4]? = some (.cells #[fnV 116] 205 (0, 0)) ∧ w.heap[c + 5]? = some (.cells #[.string ⟨#[]⟩] 9 (0, 0))

theorem Cau.below {c B : Nat} {w w' : World} (h : Cau c w) (hB : Below B w w') (hc : c + 6 ≤ B) : Cau c w' :=
  ⟨(hB.block _ (by omega)).trans h.1, (hB.block _ (by omega)).trans h.2.1, (hB.block _ (by omega)).trans h.2.2.1, (hB.block _ (by omega)).trans h.2.2.2.1, (hB.block _ (by omega)).trans h.2.2.2.2.1, (hB.block _ (by omega)).trans h.2.2.2.2.2⟩

theorem setCells_other (g : Nat) : ∀ (vs : List Value) (o : Nat) (w : World), (w.setCells g o vs).heap.size = w.heap.size ∧ (∀ k, k ≠ g → (w.setCells g o vs).heap[k]? = w.heap[k]?) ∧ ∀ (B : Nat) (a : World), B ≤ g → Below B a w → Below B a (w.setCells g o vs)
  | [], _, _ => ⟨rfl, fun _ _ => rfl, fun _ _ _ h => h⟩
  | v :: vs, o, w => by
    obtain ⟨h1, h2, h3⟩ := setCells_other g vs (o + 1) (w.setCell ⟨g, o, none⟩ v)
    refine ⟨h1.trans (by simp), fun k hk => (h2 k hk).trans (Below.heap_setCell _ _ _ _ hk), fun B a hB h => h3 B a hB (h.setCell (p := ⟨g, o, none⟩) hB v)⟩

theorem results_schemes (tm : Array Value) (n : Nat) (WW : World) {cs : List Value} (h2 : tm.getD 0 undef = .pointer (some ⟨n, 0, none⟩)) (hl : cs.length = 16) (hr : WW.rangeAt n 0 cs) :
    (results Tryz.f102 tm).run Tryz.prog WW = .ok (.agg cs.toArray) WW := by
  have hres : Tryz.f102.results = #[.cell 0 195] := by kernel_rfl
  have hi : (Tryz.prog.info? 195).map (·.size) = some cs.length := by rw [hl]; kernel_rfl
  have h2' : tm[0]?.getD undef = .pointer (some ⟨n, 0, none⟩) := by rw [← Array.getD_eq_getD_getElem?]; exact h2
  have := run_loadVar_mid (P := Tryz.prog) WW n 0 195 cs _ hr Tryz.underlying195 rfl hi
  have ha : (asAddr (.pointer (some ⟨n, 0, none⟩))).run Tryz.prog WW = .ok ⟨n, 0, none⟩ WW := rfl
  simp only [results, hres]
  simp [h2']
  rw [ha]
  exact this

set_option maxHeartbeats 1000000 in
theorem schemes_any (w : World) : Calls Tryz.prog 102 #[] w fun e w' => e = .returned (.agg (rowsV (w.heap.size + 1)).toArray) ∧ Below w.heap.size w w' ∧ Cau (w.heap.size + 1) w' ∧ w.heap.size + 7 ≤ w'.heap.size := by
  have hmf : ∀ (fn : Fn) (first cap : Array Value) (w : World), (Instr.makeFunc fn first cap).run Tryz.prog w = .ok (.func fn first cap) w := fun _ _ _ _ => rfl
  obtain ⟨R, hR⟩ : ∃ R : Array Value, R = #[.string ⟨#[]⟩, .nilFunc, .nilFunc, .nilFunc, .string ⟨#[]⟩, .nilFunc, .nilFunc, .nilFunc, .string ⟨#[]⟩, .nilFunc, .nilFunc, .nilFunc, .string ⟨#[]⟩, .nilFunc, .nilFunc, .nilFunc] := ⟨_, rfl⟩
  obtain ⟨W, hW⟩ : ∃ W, W = ((((((w.alloc (.cells R 195)).alloc (.cells #[.string anyB] 9)).alloc (.cells #[.string ipB] 9)).alloc (.cells #[fnV 114] 205)).alloc (.cells #[.string nameB] 9)).alloc (.cells #[fnV 116] 205)).alloc (.cells #[.string ⟨#[]⟩] 9) := ⟨_, rfl⟩
  have r0 : W.heap[w.heap.size]? = some (.cells R 195 (0, 0)) := by
    rw [hW]; iterate 6 rw [Below.heap_alloc _ _ _ (by simp only [World.size_alloc]; omega)]
    exact alloc_newq rfl
  have hcau : Cau (w.heap.size + 1) W := by
    rw [hW]
    refine ⟨?_, ?_, ?_, ?_, ?_, ?_⟩
    · iterate 5 rw [Below.heap_alloc _ _ _ (by simp only [World.size_alloc]; omega)]
      exact alloc_newq (by simp only [World.size_alloc])
    · iterate 4 rw [Below.heap_alloc _ _ _ (by simp only [World.size_alloc]; omega)]
      exact alloc_newq (by simp only [World.size_alloc])
    · iterate 3 rw [Below.heap_alloc _ _ _ (by simp only [World.size_alloc]; omega)]
      exact alloc_newq (by simp only [World.size_alloc])
    · iterate 2 rw [Below.heap_alloc _ _ _ (by simp only [World.size_alloc]; omega)]
      exact alloc_newq (by simp only [World.size_alloc])
    · rw [Below.heap_alloc _ _ _ (by simp only [World.size_alloc]; omega)]
      exact alloc_newq (by simp only [World.size_alloc])
    · exact alloc_newq (by simp only [World.size_alloc])
  have hsz : W.heap.size = w.heap.size + 7 := by rw [hW]; simp only [World.size_alloc]
  have hB : Below w.heap.size w W := by
    rw [hW]
    exact (((((((Below.refl _ w).alloc (Nat.le_refl _) _).alloc (by simp only [World.size_alloc]; omega) _).alloc (by simp only [World.size_alloc]; omega) _).alloc (by simp only [World.size_alloc]; omega) _).alloc (by simp only [World.size_alloc]; omega) _).alloc (by simp only [World.size_alloc]; omega) _).alloc (by simp only [World.size_alloc]; omega) _
  have hth : W.there w.heap.size 0 16 := there_of_row r0 (by rw [hR]; decide)
  have HX : Hid ((W.setCells w.heap.size 0 (rowsV (w.heap.size + 1))).rangeAt w.heap.size 0 (rowsV (w.heap.size + 1)) ∧ Below w.heap.size w (W.setCells w.heap.size 0 (rowsV (w.heap.size + 1))) ∧ Cau (w.heap.size + 1) (W.setCells w.heap.size 0 (rowsV (w.heap.size + 1))) ∧ w.heap.size + 7 ≤ (W.setCells w.heap.size 0 (rowsV (w.heap.size + 1))).heap.size) := by
    obtain ⟨k1, k2, k3⟩ := setCells_other w.heap.size (rowsV (w.heap.size + 1)) 0 W
    exact ⟨World.rangeAt_setCells_same W _ _ _ hth, k3 _ _ (Nat.le_refl _) hB, ⟨(k2 _ (by omega)).trans hcau.1, (k2 _ (by omega)).trans hcau.2.1, (k2 _ (by omega)).trans hcau.2.2.1, (k2 _ (by omega)).trans hcau.2.2.2.1, (k2 _ (by omega)).trans hcau.2.2.2.2.1, (k2 _ (by omega)).trans hcau.2.2.2.2.2⟩, by omega⟩
  have HTh : Hid (W.there w.heap.size 0 16) := hth
  clear r0 hcau hsz hB hth
  subst hW
  subst hR
  go_enter Tryz.func102, Tryz.ntmps102
  go_wp2_with (first | (go_at_call 109; refine (only_any _ _).mono ?_; rintro e w' ⟨rfl, rfl⟩) | (go_at_call 113; refine (by_any _ _ _).mono ?_; rintro e w' ⟨rfl, rfl⟩) | (refine wpList_store_mid rfl 195 _ _ rfl w.heap.size 0 _ rfl rfl ?th (by kernel_rfl) ?one ?_))
  case th => exact HTh.out
  case one => simp [Value.oneCell']
  refine bodyPost_ret (results_schemes _ w.heap.size _ rfl rfl HX.out.1) rfl ?_
  exact ⟨rfl, HX.out.2.1, HX.out.2.2.1, HX.out.2.2.2⟩

end Go.Proofs.YtgoiefhhbgollaaGreatDoor

/- What acl's schemeOf answers for ip. -/
namespace Go.Proofs.YtgoiefhhbgollaaGreatDoor
open Go.RowKit Go.Shelf
set_option maxRecDepth 8000

theorem store_func (P : Program) (w : World) (a : Addr) (m : Mode) (f : Fn) (x y : Array Value) : (store a (.func f x y) m).run P w = stored P w a (.func f x y) m := run_store P w a _ m rfl

theorem results_so (tm : Array Value) (n : Nat) (WW : World) {a b c e : Value} (h2 : tm.getD 2 undef = .pointer (some ⟨n, 0, none⟩))
    (m0 : WW.cell? ⟨n, 0, none⟩ = some a) (m1 : WW.cell? ⟨n, 1, none⟩ = some b) (m2 : WW.cell? ⟨n, 2, none⟩ = some c) (m3 : WW.cell? ⟨n, 3, none⟩ = some e) :
    (results Tryz.f95 tm).run Tryz.prog WW = .ok (.agg #[a, b, c, e]) WW := by
  have hres : Tryz.f95.results = #[.cell 2 187] := by kernel_rfl
  have h2' : tm[2]?.getD undef = .pointer (some ⟨n, 0, none⟩) := by rw [← Array.getD_eq_getD_getElem?]; exact h2
  simp only [results, hres]
  go_simp

/-- Four cells stored. -/
def set4 (n : Nat) (a b c d : Value) (w : World) : World := (((w.setCell ⟨n, 0, none⟩ a).setCell ⟨n, 1, none⟩ b).setCell ⟨n, 2, none⟩ c).setCell ⟨n, 3, none⟩ d

theorem set4_at {n : Nat} {x y z u a b c d : Value} {T : TypeId} {w : World} (h0 : w.heap[n]? = some (.cells #[x, y, z, u] T (0, 0))) :
    (set4 n a b c d w).heap[n]? = some (.cells #[a, b, c, d] T (0, 0)) ∧ (∀ k, k ≠ n → (set4 n a b c d w).heap[k]? = w.heap[k]?) ∧ (set4 n a b c d w).heap.size = w.heap.size ∧ ∀ (B : Nat) (v : World), B ≤ n → Below B v w → Below B v (set4 n a b c d w) := by
  refine ⟨?_, fun k hk => ?_, by simp [set4], fun B v hB h => ?_⟩
  · unfold set4
    exact heap_setq _ (heap_setq _ (heap_setq _ (heap_setq _ h0)))
  · unfold set4
    rw [Below.heap_setCell _ _ _ _ hk, Below.heap_setCell _ _ _ _ hk, Below.heap_setCell _ _ _ _ hk, Below.heap_setCell _ _ _ _ hk]
  · exact (((h.setCell (p := ⟨n, 0, none⟩) hB _).setCell (p := ⟨n, 1, none⟩) hB _).setCell (p := ⟨n, 2, none⟩) hB _).setCell (p := ⟨n, 3, none⟩) hB _

theorem rows_at0 (c : Nat) (W : World) : (Instr.index 195 (.agg (rowsV c).toArray) (.int .i64 0)).run Tryz.prog W = .ok (.agg #[.string worldB, fnV 103, fn1 122 c, fnV 110]) W := by
  kernel_rfl

theorem rows_at1 (c : Nat) (W : World) : (Instr.index 195 (.agg (rowsV c).toArray) (.int .i64 1)).run Tryz.prog W = .ok (.agg #[.string ipB, fnV 111, fnV 112, fn2 125 (c + 1)]) W := by
  kernel_rfl

set_option maxHeartbeats 1000000 in
theorem schemeOf_ip (nm : ByteArray) (w : World) : Calls Tryz.prog 95 #[.agg #[.string ipB, .string nm]] w fun e w' => ∃ c, e = .returned (.agg #[.string ipB, fnV 111, fnV 112, fn2 125 (c + 1)]) ∧ Below w.heap.size w w' ∧ Cau c w' ∧ w.heap.size ≤ c ∧ c + 6 ≤ w'.heap.size := by
  have HS : Hid _ := fun w => schemes_any w
  have hsf := store_func
  have hr0 := rows_at0
  have hr1 := rows_at1
  go_enter Tryz.func95, Tryz.ntmps95
  go_wp2_with fail
  refine (HS.out _).mono ?_
  rintro e w1 ⟨rfl, hB1, hC1, hz1⟩
  obtain ⟨V, hV⟩ : ∃ V, V = (w.alloc (.cells #[.string ipB, .string nm] 37)).alloc (.cells #[.string ⟨#[]⟩, .nilFunc, .nilFunc, .nilFunc] 187) := ⟨_, rfl⟩
  have v0 : V.heap[w.heap.size]? = some (.cells #[.string ipB, .string nm] 37 (0, 0)) := by
    rw [hV, Below.heap_alloc _ _ _ (by simp only [World.size_alloc]; omega)]; exact alloc_newq rfl
  have v1 : V.heap[w.heap.size + 1]? = some (.cells #[.string ⟨#[]⟩, .nilFunc, .nilFunc, .nilFunc] 187 (0, 0)) := by
    rw [hV]; exact alloc_newq (by simp only [World.size_alloc])
  have vB : Below w.heap.size w V := by rw [hV]; exact ((Below.refl _ w).alloc (Nat.le_refl _) _).alloc (by simp only [World.size_alloc]; omega) _
  have vz : V.heap.size = w.heap.size + 2 := by rw [hV]; simp only [World.size_alloc]
  rw [← hV] at hB1 hC1 hz1
  have HA : Hid (w1.heap[w.heap.size]? = some (.cells #[.string ipB, .string nm] 37 (0, 0)) ∧ w1.heap[w.heap.size + 1]? = some (.cells #[.string ⟨#[]⟩, .nilFunc, .nilFunc, .nilFunc] 187 (0, 0)) ∧ Below w.heap.size w w1 ∧ Cau (w.heap.size + 3) w1 ∧ w.heap.size + 9 ≤ w1.heap.size) := by
    refine ⟨(hB1.block _ (by omega)).trans v0, (hB1.block _ (by omega)).trans v1, vB.trans (hB1.mono (by omega)), ?_, by omega⟩
    rw [vz] at hC1
    exact hC1
  clear hB1 hC1 hz1 v0 v1 vB vz hV
  go_wp2
  go_loopw [6] (fun vi wr => ∃ (k : Nat), k ≤ 1 ∧ vi = .int .i64 (k : Int) ∧ Hid (Below w1.heap.size w1 wr)) (fun vi _ => 4 - (intOf vi).toNat)
  case atStart => exact ⟨0, by omega, rfl, Below.refl _ _⟩
  case round =>
    obtain ⟨k, hk, rfl, HB⟩ := hrel
    have q0 : wr.heap[w.heap.size]? = some (.cells #[.string ipB, .string nm] 37 (0, 0)) := (HB.out.block _ (by have := HA.out.2.2.2.2; omega)).trans HA.out.1
    have q1 : wr.heap[w.heap.size + 1]? = some (.cells #[.string ⟨#[]⟩, .nilFunc, .nilFunc, .nilFunc] 187 (0, 0)) := (HB.out.block _ (by have := HA.out.2.2.2.2; omega)).trans HA.out.2.1
    have hlt : w.heap.size + 1 < wr.heap.size := lt_of_block q1
    have hlt0 : w.heap.size < wr.heap.size := by omega
    have i0 : wr.cell? ⟨w.heap.size, 0, none⟩ = some (.string ipB) := cell_of_row wr w.heap.size 0 _ _ _ q0
    obtain ⟨⟨y0, y1, y2, y3⟩, f0, f1, f2, f3⟩ := cells4 q1
    have hk2 : k = 0 ∨ k = 1 := by omega
    rcases hk2 with rfl | rfl
    · clear q0 q1
      go_wp2
      go_roundw
      case rel => exact ⟨1, by omega, rfl, HB.out.alloc HB.out.size _⟩
      case measure => simp [intOf]
    · have HQ : Hid (wr.heap[w.heap.size + 1]? = some (.cells #[.string ⟨#[]⟩, .nilFunc, .nilFunc, .nilFunc] 187 (0, 0))) := q1
      clear q0 q1
      go_wp2
      obtain ⟨p0, p1, p2, p3⟩ := set4_at (a := .string ipB) (b := fnV 111) (c := fnV 112) (d := fn2 125 (w.heap.size + 3 + 1)) HQ.out
      have hB : Below w.heap.size w wr := HA.out.2.2.1.trans (HB.out.mono HA.out.2.2.1.size)
      have hz : w.heap.size + 9 ≤ wr.heap.size := by have := HB.out.size; have := HA.out.2.2.2.2; omega
      obtain ⟨X, hX⟩ : ∃ X, X = (set4 (w.heap.size + 1) (.string ipB) (fnV 111) (fnV 112) (fn2 125 (w.heap.size + 3 + 1)) wr).alloc (.cells #[.string ipB, fnV 111, fnV 112, fn2 125 (w.heap.size + 3 + 1)] 187) := ⟨_, rfl⟩
      have x1 : X.heap[w.heap.size + 1]? = some (.cells #[.string ipB, fnV 111, fnV 112, fn2 125 (w.heap.size + 3 + 1)] 187 (0, 0)) := by
        rw [hX, Below.heap_alloc _ _ _ (by rw [p2]; omega)]; exact p0
      have xk : ∀ k, k ≠ w.heap.size + 1 → k < wr.heap.size → X.heap[k]? = wr.heap[k]? := fun k hk hl => by
        rw [hX, Below.heap_alloc _ _ _ (by rw [p2]; exact hl)]; exact p1 k hk
      have xB : Below w.heap.size w X := by
        rw [hX]; exact (p3 _ _ (by omega) hB).alloc (by rw [p2]; omega) _
      have xz : X.heap.size = wr.heap.size + 1 := by rw [hX, World.size_alloc, p2]
      have hC := HA.out.2.2.2.1
      have xC : Cau (w.heap.size + 3) X := by
        have hCr : Cau (w.heap.size + 3) wr := hC.below HB.out (by have := HA.out.2.2.2.2; omega)
        exact ⟨(xk _ (by omega) (by omega)).trans hCr.1, (xk _ (by omega) (by omega)).trans hCr.2.1, (xk _ (by omega) (by omega)).trans hCr.2.2.1, (xk _ (by omega) (by omega)).trans hCr.2.2.2.1, (xk _ (by omega) (by omega)).trans hCr.2.2.2.2.1, (xk _ (by omega) (by omega)).trans hCr.2.2.2.2.2⟩
      obtain ⟨⟨m0, m1, m2, m3⟩, _⟩ := cells4 x1
      show bodyPost _ _ _ _ _ ((set4 (w.heap.size + 1) (.string ipB) (fnV 111) (fnV 112) (fn2 125 (w.heap.size + 3 + 1)) wr).alloc (.cells #[.string ipB, fnV 111, fnV 112, fn2 125 (w.heap.size + 3 + 1)] 187))
      rw [← hX]
      refine bodyPost_ret (results_so _ (w.heap.size + 1) _ rfl m0 m1 m2 m3) rfl ?_
      exact ⟨w.heap.size + 3, rfl, xB, xC, by omega, by omega⟩

end Go.Proofs.YtgoiefhhbgollaaGreatDoor

/- What acl's isOfEntry and isOfClient answer for ip. -/
namespace Go.Proofs.YtgoiefhhbgollaaGreatDoor
open Go.RowKit Go.Shelf
set_option maxRecDepth 8000

/-- An id in memory; what lay below lies as it lay. -/
def PId (nm : ByteArray) (w V : World) : Prop := V.heap[w.heap.size]? = some (.cells #[.string ipB, .string nm] 37 (0, 0)) ∧ Below w.heap.size w V

theorem PId.below {nm : ByteArray} {w V V' : World} (h : PId nm w V) (hB : Below V.heap.size V V') : PId nm w V' :=
  ⟨(hB.block _ (lt_of_block h.1)).trans h.1, h.2.trans (hB.mono h.2.size)⟩

theorem field_at (c : Nat) (W : World) : (Instr.field 187 (.agg #[.string ipB, fnV 111, fnV 112, fn2 125 (c + 1)]) 1).run Tryz.prog W = .ok (fnV 111) W ∧ (Instr.field 187 (.agg #[.string ipB, fnV 111, fnV 112, fn2 125 (c + 1)]) 2).run Tryz.prog W = .ok (fnV 112) W ∧ (Instr.field 187 (.agg #[.string ipB, fnV 111, fnV 112, fn2 125 (c + 1)]) 3).run Tryz.prog W = .ok (fn2 125 (c + 1)) W :=
  ⟨by kernel_rfl, by kernel_rfl, by kernel_rfl⟩

set_option maxHeartbeats 1000000 in
theorem isOfEntry_ip (nm : ByteArray) (hs : nm.size ≤ 4294967296) (w : World) : Calls Tryz.prog 93 #[.agg #[.string ipB, .string nm]] w fun e w' => e = .returned (.bool (rngD nm.data.toList).isSome) ∧ Below w.heap.size w w' := by
  obtain ⟨b, hb⟩ : ∃ b, b = (rngD nm.data.toList).isSome := ⟨_, rfl⟩
  have HR : Hid (∀ V, Hid (PId nm w V) → Calls Tryz.prog 112 #[.string nm] V fun e w' => e = .returned (.bool b) ∧ Hid (PId nm w w')) := fun V hV => by
    rw [hb]
    exact (isRange_any nm hs V).mono (fun e w' h => ⟨h.1, hV.out.below h.2⟩)
  rw [← hb]
  clear hb
  have HS : Hid (∀ V, Hid (PId nm w V) → Calls Tryz.prog 95 #[.agg #[.string ipB, .string nm]] V fun e w' => ∃ c, e = .returned (.agg #[.string ipB, fnV 111, fnV 112, fn2 125 (c + 1)]) ∧ Hid (PId nm w w') ∧ w'.cell? ⟨w.heap.size, 1, none⟩ = some (.string nm)) := fun V hV =>
    (schemeOf_ip nm V).mono (fun e w' ⟨c, h1, h2, _⟩ => ⟨c, h1, hV.out.below h2, cell_of_row w' w.heap.size 1 _ _ _ (hV.out.below h2).1⟩)
  have hP : PId nm w (w.alloc (.cells #[.string ipB, .string nm] 37)) := ⟨heap_alloc_new w _, (Below.refl _ w).alloc (Nat.le_refl _) _⟩
  have HW : Hid (PId nm w (w.alloc (.cells #[.string ipB, .string nm] 37)).drew) := hP.below ⟨rfl, rfl, rfl, Nat.le_refl _, fun _ _ => rfl⟩
  have hfd := fun c W => (field_at c W).2.1
  clear hP
  go_enter Tryz.func93, Tryz.ntmps93
  go_wp2_with fail
  go_region_with (first | (go_at_call 95; refine (HS.out _ HW).mono ?_; rintro e w3 ⟨c, rfl, hS, j1⟩) | (go_at_call 112; refine (HR.out _ hS).mono ?_; rintro e w4 ⟨rfl, hS4⟩))
  all_goals go_wp2
  all_goals (go_ret; exact ⟨rfl, hS4.out.2⟩)

set_option maxHeartbeats 1000000 in
theorem isOfClient_ip (nm : ByteArray) (hs : nm.size ≤ 4294967296) (w : World) : Calls Tryz.prog 60 #[.agg #[.string ipB, .string nm]] w fun e w' => e = .returned (.bool (adD nm.data.toList).isSome) ∧ Below w.heap.size w w' := by
  obtain ⟨b, hb⟩ : ∃ b, b = (adD nm.data.toList).isSome := ⟨_, rfl⟩
  have HR : Hid (∀ V, Hid (PId nm w V) → Calls Tryz.prog 111 #[.string nm] V fun e w' => e = .returned (.bool b) ∧ Hid (PId nm w w')) := fun V hV => by
    rw [hb]
    exact (isAddress_any nm hs V).mono (fun e w' h => ⟨h.1, hV.out.below h.2⟩)
  rw [← hb]
  clear hb
  have HS : Hid (∀ V, Hid (PId nm w V) → Calls Tryz.prog 95 #[.agg #[.string ipB, .string nm]] V fun e w' => ∃ c, e = .returned (.agg #[.string ipB, fnV 111, fnV 112, fn2 125 (c + 1)]) ∧ Hid (PId nm w w') ∧ w'.cell? ⟨w.heap.size, 1, none⟩ = some (.string nm)) := fun V hV =>
    (schemeOf_ip nm V).mono (fun e w' ⟨c, h1, h2, _⟩ => ⟨c, h1, hV.out.below h2, cell_of_row w' w.heap.size 1 _ _ _ (hV.out.below h2).1⟩)
  have hP : PId nm w (w.alloc (.cells #[.string ipB, .string nm] 37)) := ⟨heap_alloc_new w _, (Below.refl _ w).alloc (Nat.le_refl _) _⟩
  have HW : Hid (PId nm w (w.alloc (.cells #[.string ipB, .string nm] 37)).drew) := hP.below ⟨rfl, rfl, rfl, Nat.le_refl _, fun _ _ => rfl⟩
  have hfd := fun c W => (field_at c W).1
  clear hP
  go_enter Tryz.func60, Tryz.ntmps60
  go_wp2_with fail
  go_region_with (first | (go_at_call 95; refine (HS.out _ HW).mono ?_; rintro e w3 ⟨c, rfl, hS, j1⟩) | (go_at_call 111; refine (HR.out _ hS).mono ?_; rintro e w4 ⟨rfl, hS4⟩))
  all_goals go_wp2
  all_goals (go_ret; exact ⟨rfl, hS4.out.2⟩)

end Go.Proofs.YtgoiefhhbgollaaGreatDoor

/- What the function that acl.by makes for ip answers. -/
namespace Go.Proofs.YtgoiefhhbgollaaGreatDoor
open Go.RowKit Go.Shelf
set_option maxRecDepth 8000

set_option maxHeartbeats 1000000 in
theorem by1_ip (nm wn : ByteArray) (hs : nm.size ≤ 4294967296) (ht : wn.size ≤ 4294967296) (c : Nat) (w : World) (hC : Cau c w) (hz : c + 6 ≤ w.heap.size) :
    Calls Tryz.prog 125 #[.string nm, .agg #[.string ipB, .string wn], .pointer (some ⟨c + 1, 0, none⟩), .pointer (some ⟨c + 2, 0, none⟩)] w fun e w' => e = .returned (.bool (witD nm.data.toList wn.data.toList)) ∧ Below w.heap.size w w' := by
  obtain ⟨b, hb⟩ : ∃ b, b = witD nm.data.toList wn.data.toList := ⟨_, rfl⟩
  have HW : Hid (∀ V, Calls Tryz.prog 114 #[.string nm, .string wn] V fun e w' => e = .returned (.bool b) ∧ Below V.heap.size V w') := fun V => by rw [hb]; exact isWithin_any nm wn hs ht V
  rw [← hb]
  clear hb
  have q0 : (w.alloc (.cells #[.string ipB, .string wn] 37)).heap[w.heap.size]? = some (.cells #[.string ipB, .string wn] 37 (0, 0)) := heap_alloc_new w _
  have q1 : (w.alloc (.cells #[.string ipB, .string wn] 37)).heap[c + 1]? = some (.cells #[.string ipB] 9 (0, 0)) := by rw [Below.heap_alloc _ _ _ (by omega)]; exact hC.2.1
  have q2 : (w.alloc (.cells #[.string ipB, .string wn] 37)).heap[c + 2]? = some (.cells #[fnV 114] 205 (0, 0)) := by rw [Below.heap_alloc _ _ _ (by omega)]; exact hC.2.2.1
  have c0 := cell_of_row _ w.heap.size 0 _ _ _ q0
  have c1 := cell_of_row _ w.heap.size 1 _ _ _ q0
  have c2 := cell_of_row _ (c + 1) 0 _ _ _ q1
  have c3 := cell_of_row _ (c + 2) 0 _ _ _ q2
  have d0 : (w.alloc (.cells #[.string ipB, .string wn] 37)).cell? ⟨w.heap.size, 0, none⟩ = some (.string ipB) := c0
  have d1 : (w.alloc (.cells #[.string ipB, .string wn] 37)).cell? ⟨w.heap.size, 1, none⟩ = some (.string wn) := c1
  have d2 : (w.alloc (.cells #[.string ipB, .string wn] 37)).cell? ⟨c + 1, 0, none⟩ = some (.string ipB) := c2
  have d3 : (w.alloc (.cells #[.string ipB, .string wn] 37)).cell? ⟨c + 2, 0, none⟩ = some (fnV 114) := c3
  have e2 : w.cell? ⟨c + 1, 0, none⟩ = some (.string ipB) := cell_of_row _ (c + 1) 0 _ _ _ hC.2.1
  have e3 : w.cell? ⟨c + 2, 0, none⟩ = some (fnV 114) := cell_of_row _ (c + 2) 0 _ _ _ hC.2.2.1
  have l1 : c + 1 < w.heap.size := by omega
  have l2 : c + 2 < w.heap.size := by omega
  have HB : Hid (Below w.heap.size w (w.alloc (.cells #[.string ipB, .string wn] 37))) := (Below.refl _ w).alloc (Nat.le_refl _) _
  have HL : Hid (w.heap.size ≤ (w.alloc (.cells #[.string ipB, .string wn] 37)).heap.size) := HB.out.size
  clear c0 c1 c2 c3 q0 q1 q2 hC
  go_enter Tryz.func125, Tryz.ntmps125
  go_wp2_with (go_at_call 114; refine (HW.out _).mono ?_; rintro e w4 ⟨rfl, hS4⟩)
  all_goals (go_ret; exact ⟨rfl, HB.out.trans (hS4.mono HL.out)⟩)

end Go.Proofs.YtgoiefhhbgollaaGreatDoor
