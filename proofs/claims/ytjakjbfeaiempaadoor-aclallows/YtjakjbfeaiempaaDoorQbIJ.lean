/- What acl's rows of schemes are. -/
import Derived.Test.YtjakjbfeaiempaaDoorQbHJ
import Derived.Deep.MidRow
namespace Go.Proofs.YtjakjbfeaiempaaDoor
open Go.RowKit Go.Shelf
set_option maxRecDepth 8000

theorem only_any (s : ByteArray) (w : World) : Calls Tryd.prog 62 #[.string s] w fun e w' => e = .returned (.func (.func 75) #[] #[.pointer (some ⟨w.heap.size, 0, none⟩)]) ∧ w' = w.alloc (.cells #[.string s] 9) := by
  have hmf : ∀ (fn : Fn) (first cap : Array Value) (w : World), (Instr.makeFunc fn first cap).run Tryd.prog w = .ok (.func fn first cap) w := fun _ _ _ _ => rfl
  go_enter Tryd.func62, Tryd.ntmps62
  go_wp2
  go_ret
  exact ⟨rfl, rfl⟩

theorem by_any (s : ByteArray) (g : Nat) (w : World) : Calls Tryd.prog 66 #[.string s, .func (.func g) #[] #[]] w fun e w' => e = .returned (.func (.func 78) #[] #[.pointer (some ⟨w.heap.size, 0, none⟩), .pointer (some ⟨w.heap.size + 1, 0, none⟩)]) ∧ w' = (w.alloc (.cells #[.string s] 9)).alloc (.cells #[.func (.func g) #[] #[]] 79) := by
  have hmf : ∀ (fn : Fn) (first cap : Array Value) (w : World), (Instr.makeFunc fn first cap).run Tryd.prog w = .ok (.func fn first cap) w := fun _ _ _ _ => rfl
  go_enter Tryd.func66, Tryd.ntmps66
  go_wp2
  go_ret
  exact ⟨rfl, rfl⟩

theorem there_of_row {w : World} {b n : Nat} {cs : Array Value} {T : TypeId} (h : w.heap[b]? = some (.cells cs T (0, 0))) (hn : n ≤ cs.size) : w.there b 0 n := fun j hj => by
  refine ⟨?_, ?_⟩
  · have := cell_of_row w b (0 + j) _ _ _ h
    rw [this, Array.getElem?_eq_getElem (by omega)]
    rfl
  · exact frozen_of_row w b (0 + j) _ _ h

abbrev fnV (g : Nat) : Value := .func (.func g) #[] #[]
abbrev fn1 (g c : Nat) : Value := .func (.func g) #[] #[.pointer (some ⟨c, 0, none⟩)]
abbrev fn2 (g c : Nat) : Value := .func (.func g) #[] #[.pointer (some ⟨c, 0, none⟩), .pointer (some ⟨c + 1, 0, none⟩)]
abbrev worldB : ByteArray := ⟨#[119, 111, 114, 108, 100]⟩
abbrev ipB : ByteArray := ⟨#[105, 112]⟩
abbrev nameB : ByteArray := ⟨#[110, 97, 109, 101]⟩
abbrev authB : ByteArray := ⟨#[97, 117, 116, 104]⟩
abbrev anyB : ByteArray := ⟨#[97, 110, 121, 111, 110, 101]⟩

/-- The four rows; c: the first of six new blocks. -/
abbrev rowsV (c : Nat) : List Value := [.string worldB, fnV 54, fn1 75 c, fnV 63, .string ipB, fnV 64, fnV 65, fn2 78 (c + 1), .string nameB, fnV 68, fnV 68, fn2 78 (c + 3), .string authB, fnV 54, fn1 75 (c + 5), fnV 55]

/-- What the rows' functions have caught. -/
def Cau (c : Nat) (w : World) : Prop := w.heap[c]? = some (.cells #[.string anyB] 9 (0, 0)) ∧ w.heap[c + 1]? = some (.cells #[.string ipB] 9 (0, 0)) ∧ w.heap[c + 2]? = some (.cells #[fnV 67] 79 (0, 0)) ∧ w.heap[c + 3]? = some (.cells #[.string nameB] 9 (0, 0)) ∧ w.heap[c + 4]? = some (.cells #[fnV 69] 79 (0, 0)) ∧ w.heap[c + 5]? = some (.cells #[.string ⟨#[]⟩] 9 (0, 0))

theorem Cau.below {c B : Nat} {w w' : World} (h : Cau c w) (hB : Below B w w') (hc : c + 6 ≤ B) : Cau c w' :=
  ⟨(hB.block _ (by omega)).trans h.1, (hB.block _ (by omega)).trans h.2.1, (hB.block _ (by omega)).trans h.2.2.1, (hB.block _ (by omega)).trans h.2.2.2.1, (hB.block _ (by omega)).trans h.2.2.2.2.1, (hB.block _ (by omega)).trans h.2.2.2.2.2⟩

theorem setCells_other (g : Nat) : ∀ (vs : List Value) (o : Nat) (w : World), (w.setCells g o vs).heap.size = w.heap.size ∧ (∀ k, k ≠ g → (w.setCells g o vs).heap[k]? = w.heap[k]?) ∧ ∀ (B : Nat) (a : World), B ≤ g → Below B a w → Below B a (w.setCells g o vs)
  | [], _, _ => ⟨rfl, fun _ _ => rfl, fun _ _ _ h => h⟩
  | v :: vs, o, w => by
    obtain ⟨h1, h2, h3⟩ := setCells_other g vs (o + 1) (w.setCell ⟨g, o, none⟩ v)
    refine ⟨h1.trans (by simp), fun k hk => (h2 k hk).trans (Below.heap_setCell _ _ _ _ hk), fun B a hB h => h3 B a hB (h.setCell (p := ⟨g, o, none⟩) hB v)⟩

theorem results_schemes (tm : Array Value) (n : Nat) (WW : World) {cs : List Value} (h2 : tm.getD 0 undef = .pointer (some ⟨n, 0, none⟩)) (hl : cs.length = 16) (hr : WW.rangeAt n 0 cs) :
    (results Tryd.f53 tm).run Tryd.prog WW = .ok (.agg cs.toArray) WW := by
  have hres : Tryd.f53.results = #[.cell 0 70] := by kernel_rfl
  have hi : (Tryd.prog.info? 70).map (·.size) = some cs.length := by rw [hl]; kernel_rfl
  have h2' : tm[0]?.getD undef = .pointer (some ⟨n, 0, none⟩) := by rw [← Array.getD_eq_getD_getElem?]; exact h2
  have := run_loadVar_mid (P := Tryd.prog) WW n 0 70 cs _ hr Tryd.underlying70 rfl hi
  have ha : (asAddr (.pointer (some ⟨n, 0, none⟩))).run Tryd.prog WW = .ok ⟨n, 0, none⟩ WW := rfl
  simp only [results, hres]
  simp [h2']
  rw [ha]
  exact this

set_option maxHeartbeats 1000000 in
theorem schemes_any (w : World) : Calls Tryd.prog 53 #[] w fun e w' => e = .returned (.agg (rowsV (w.heap.size + 1)).toArray) ∧ Below w.heap.size w w' ∧ Cau (w.heap.size + 1) w' ∧ w.heap.size + 7 ≤ w'.heap.size := by
  have hmf : ∀ (fn : Fn) (first cap : Array Value) (w : World), (Instr.makeFunc fn first cap).run Tryd.prog w = .ok (.func fn first cap) w := fun _ _ _ _ => rfl
  obtain ⟨R, hR⟩ : ∃ R : Array Value, R = #[.string ⟨#[]⟩, .nilFunc, .nilFunc, .nilFunc, .string ⟨#[]⟩, .nilFunc, .nilFunc, .nilFunc, .string ⟨#[]⟩, .nilFunc, .nilFunc, .nilFunc, .string ⟨#[]⟩, .nilFunc, .nilFunc, .nilFunc] := ⟨_, rfl⟩
  obtain ⟨W, hW⟩ : ∃ W, W = ((((((w.alloc (.cells R 70)).alloc (.cells #[.string anyB] 9)).alloc (.cells #[.string ipB] 9)).alloc (.cells #[fnV 67] 79)).alloc (.cells #[.string nameB] 9)).alloc (.cells #[fnV 69] 79)).alloc (.cells #[.string ⟨#[]⟩] 9) := ⟨_, rfl⟩
  have r0 : W.heap[w.heap.size]? = some (.cells R 70 (0, 0)) := by
    rw [hW]; iterate 6 rw [Below.heap_alloc _ _ _ (by simp only [World.size_alloc]; omega)]
    exact alloc_newq rfl
  have hcau : Cau (w.heap.size + 1) W := by
    rw [hW]
    refine ⟨?_, ?_, ?_, ?_, ?_, ?_⟩
    · iterate 5 rw [Below.heap_alloc _ _ _ (by simp only [World.size_alloc]; omega)]
      exact alloc_newq (by simp only [World.size_alloc])
    · iterate 4 rw [Below.heap_alloc _ _ _ (by simp only [World.size_alloc]; omega)]
      exact alloc_newq (by simp only [World.size_alloc])
    · iterate 3 rw [Below.heap_alloc _ _ _ (by simp only [World.size_alloc]; omega)]
      exact alloc_newq (by simp only [World.size_alloc])
    · iterate 2 rw [Below.heap_alloc _ _ _ (by simp only [World.size_alloc]; omega)]
      exact alloc_newq (by simp only [World.size_alloc])
    · rw [Below.heap_alloc _ _ _ (by simp only [World.size_alloc]; omega)]
      exact alloc_newq (by simp only [World.size_alloc])
    · exact alloc_newq (by simp only [World.size_alloc])
  have hsz : W.heap.size = w.heap.size + 7 := by rw [hW]; simp only [World.size_alloc]
  have hB : Below w.heap.size w W := by
    rw [hW]
    exact (((((((Below.refl _ w).alloc (Nat.le_refl _) _).alloc (by simp only [World.size_alloc]; omega) _).alloc (by simp only [World.size_alloc]; omega) _).alloc (by simp only [World.size_alloc]; omega) _).alloc (by simp only [World.size_alloc]; omega) _).alloc (by simp only [World.size_alloc]; omega) _).alloc (by simp only [World.size_alloc]; omega) _
  have hth : W.there w.heap.size 0 16 := there_of_row r0 (by rw [hR]; decide)
  have HX : Hid ((W.setCells w.heap.size 0 (rowsV (w.heap.size + 1))).rangeAt w.heap.size 0 (rowsV (w.heap.size + 1)) ∧ Below w.heap.size w (W.setCells w.heap.size 0 (rowsV (w.heap.size + 1))) ∧ Cau (w.heap.size + 1) (W.setCells w.heap.size 0 (rowsV (w.heap.size + 1))) ∧ w.heap.size + 7 ≤ (W.setCells w.heap.size 0 (rowsV (w.heap.size + 1))).heap.size) := by
    obtain ⟨k1, k2, k3⟩ := setCells_other w.heap.size (rowsV (w.heap.size + 1)) 0 W
    exact ⟨World.rangeAt_setCells_same W _ _ _ hth, k3 _ _ (Nat.le_refl _) hB, ⟨(k2 _ (by omega)).trans hcau.1, (k2 _ (by omega)).trans hcau.2.1, (k2 _ (by omega)).trans hcau.2.2.1, (k2 _ (by omega)).trans hcau.2.2.2.1, (k2 _ (by omega)).trans hcau.2.2.2.2.1, (k2 _ (by omega)).trans hcau.2.2.2.2.2⟩, by omega⟩
  have HTh : Hid (W.there w.heap.size 0 16) := hth
  clear r0 hcau hsz hB hth
  subst hW
  subst hR
  go_enter Tryd.func53, Tryd.ntmps53
  go_wp2_with (first | (go_at_call 62; refine (only_any _ _).mono ?_; rintro e w' ⟨rfl, rfl⟩) | (go_at_call 66; refine (by_any _ _ _).mono ?_; rintro e w' ⟨rfl, rfl⟩) | (refine wpList_store_mid rfl 70 _ _ rfl w.heap.size 0 _ rfl rfl ?th (by kernel_rfl) ?one ?_))
  case th => exact HTh.out
  case one => simp [Value.oneCell']
  refine bodyPost_ret (results_schemes _ w.heap.size _ rfl rfl HX.out.1) rfl ?_
  exact ⟨rfl, HX.out.2.1, HX.out.2.2.1, HX.out.2.2.2⟩

end Go.Proofs.YtjakjbfeaiempaaDoor
