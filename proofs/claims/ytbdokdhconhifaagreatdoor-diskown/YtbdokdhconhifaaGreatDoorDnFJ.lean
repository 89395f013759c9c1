/- Package disk at one small file named a: bytes put behind a file's end. -/
import Derived.Test.YtbdokdhconhifaaGreatDoorDnDJ
import Derived.Test.YtbdokdhconhifaaGreatDoorShelfGJ
import Derived.Laws.CopyOwn
namespace Go.Proofs.YtbdokdhconhifaaGreatDoor
open Go.RowKit Go.Shelf
set_option maxRecDepth 8000

theorem Tryz.infoBy : (Tryz.prog.info? 5).map (fun i => (i.zero, i.size, i.bytes)) = some (some (.int .u8 0), 1, 1) := by kernel_rfl

/-- Grow where there is no room: a new row. -/
theorem grow_new (base : Option Addr) (l c n : Nat) (cs : List Value) (w : World) (hlc : l ≤ c) (hroom : c < l + n) (hsm : l + n ≤ 1000) (hcl : cs.length = c) (hnil : base = none → c = 0) (hcs : ∀ a, base = some a → ∀ j v, cs[j]? = some v → w.cell? (a.add j) = some v) :
    Calls Tryz.prog 98 #[.slice base l c, .int .i64 (n : Int)] w fun e w' => ∃ cur : Array Value, e = .returned (.slice (some ⟨w.heap.size, 0, none⟩) l cur.size) ∧ w' = w.drew.alloc (.cells cur 5) ∧ l + n ≤ cur.size ∧ cur.size ≤ 9223372036854775807 ∧ cur.toList.take c = cs := by
  obtain ⟨i, hi, hz, hs, hb⟩ : ∃ i, Tryz.prog.info? 5 = some i ∧ i.zero = some (.int .u8 0) ∧ i.size = 1 ∧ i.bytes = 1 := by
    have := Tryz.infoBy
    cases h : Tryz.prog.info? 5 with
    | none => rw [h] at this; simp at this
    | some i => rw [h] at this; simp at this; exact ⟨i, rfl, this.1, this.2.1, this.2.2⟩
  refine (Any8.slices_Grow_grow Tryz.growB i (.int .u8 0) hi hz (by omega) base l c n cs w hlc hroom (by rw [hb]; omega) (by omega) (by rw [hs]; omega) hnil hcs).mono ?_
  rintro e w' ⟨h1, h2⟩
  rw [show Tryz.growB_ren.t 25 = 5 from rfl] at h1 h2
  subst h1
  subst h2
  have hg : l + n ≤ grownCap w (l + n) c 5 := grownCap_ge w _ _ _
  have hm : grownCap w (l + n) c 5 ≤ maxLen := grownCap_le_maxLen w (l + n) c 5 (by unfold maxLen; omega)
  have hsz : (cs.toArray ++ Builtin.zeroCells (Value.int .u8 0).cells (l + n - c) ++ Builtin.zeroCells (Value.int .u8 0).cells (grownCap w (l + n) c 5 - (l + n))).size = grownCap w (l + n) c 5 := by
    simp only [Array.size_append, size_zeroCells, List.size_toArray, hcl, Value.cells]
    simp
    omega
  refine ⟨_, by rw [hsz], rfl, by rw [hsz]; exact hg, by rw [hsz]; unfold maxLen at hm; omega, ?_⟩
  simp only [Array.toList_append, List.append_assoc]
  rw [← hcl]
  exact List.take_left

theorem dnBelow_drew {B : Nat} {v w : World} (h : Below B v w) : Below B v w.drew := ⟨h.os, h.tape, h.output, h.size, h.block⟩

abbrev abcV : List Value := [.int .u8 97, .int .u8 98, .int .u8 99]

theorem fl_cells {f l c : Nat} {ga : Option Addr} {dur : Int} {V : World} (h : V.heap[f]? = some (.cells (flC ga l c dur) 122 (0, 0))) : V.cell? ⟨f, 0, none⟩ = some (.string aB) ∧ V.cell? ⟨f, 1, none⟩ = some (.slice ga l c) ∧ V.cell? ⟨f, 2, none⟩ = some (.int .i64 dur) :=
  ⟨cell_of_row V f 0 _ _ _ h, cell_of_row V f 1 _ _ _ h, cell_of_row V f 2 _ _ _ h⟩

/-- The first bytes of a file. -/
theorem append_first {f m cm : Nat} {w : World} (hf : w.heap[f]? = some (.cells (flC none 0 0 0) 122 (0, 0))) (hm : ∀ j v, abcV[j]? = some v → w.cell? ⟨m, j, none⟩ = some v) (hmf : m ≠ f) :
    Calls Tryz.prog 69 #[.pointer (some ⟨f, 0, none⟩), .slice (some ⟨m, 0, none⟩) 3 cm] w fun e w' => e = .returned (.tuple #[]) ∧ ∃ cur : Array Value, w'.heap[f]? = some (.cells (flC (some ⟨w.heap.size, 0, none⟩) 3 cur.size 0) 122 (0, 0)) ∧ w'.heap[w.heap.size]? = some (.cells cur 5 (0, 0)) ∧ 3 ≤ cur.size ∧ cur.size ≤ 9223372036854775807 ∧ cur.toList.take 3 = abcV ∧ w.heap.size < w'.heap.size ∧ (∀ k, k < w.heap.size → k ≠ f → w'.heap[k]? = w.heap[k]?) ∧ (∀ (B : Nat) (v : World), B ≤ f → Below B v w → Below B v w') := by
  obtain ⟨c0, c1, c2⟩ := fl_cells hf
  have hl := lt_of_block hf
  have HF : Hid (w.heap[f]? = some (.cells (flC none 0 0 0) 122 (0, 0))) := hf
  have HM : Hid (∀ j v, abcV[j]? = some v → w.cell? ⟨m, j, none⟩ = some v) := hm
  have HG : Hid (Calls Tryz.prog 98 #[.slice none 0 0, .int .i64 3] w fun e w' => ∃ cur : Array Value, e = .returned (.slice (some ⟨w.heap.size, 0, none⟩) 0 cur.size) ∧ w' = w.drew.alloc (.cells cur 5) ∧ 0 + 3 ≤ cur.size ∧ cur.size ≤ 9223372036854775807 ∧ cur.toList.take 0 = []) := grow_new none 0 0 3 [] w (by omega) (by omega) (by omega) rfl (fun _ => rfl) (fun a h => by cases h)
  clear hf hm
  go_enter Tryz.func69, Tryz.ntmps69
  go_wp2_with fail
  go_at_call 98
  refine (HG.out).mono ?_
  rintro e w1 ⟨cur, rfl, hw1, hc3, hc63, _⟩
  have hfl1 : f < w1.heap.size := by rw [hw1]; simp; omega
  have hf1 : w1.heap[f]? = some (.cells (flC none 0 0 0) 122 (0, 0)) := by rw [hw1, Below.heap_alloc _ _ _ (by simpa using hl)]; exact HF.out
  obtain ⟨d0, d1, d2⟩ := fl_cells hf1
  have fr1 : w1.frozen? ⟨f, 1, none⟩ = false := frozen_of_row w1 f 1 _ _ hf1
  have hcI : (3 : Int) ≤ (cur.size : Int) := by omega
  have hNf : w.heap.size ≠ f := by omega
  have hrow : (w1.setCell ⟨f, 1, none⟩ (.slice (some ⟨w.heap.size, 0, none⟩) 3 cur.size)).heap[w.heap.size]? = some (.cells cur 5 (0, 0)) := by
    rw [Below.heap_setCell _ _ _ _ hNf, hw1]; exact heap_alloc_new w.drew _
  have hcp := run_copy_row (P := Tryz.prog) (w1.setCell ⟨f, 1, none⟩ (.slice (some ⟨w.heap.size, 0, none⟩) 3 cur.size)) 58 58 3 5 w.heap.size 0 3 cur.size ⟨m, 0, none⟩ 3 cm cur 5 abcV Tryz.underlying58 (by kernel_rfl) hrow rfl (fun j v hj => by
    rw [Addr.add_lit]
    have hml : m < w.heap.size := World.block_lt_of_cell? w ⟨m, 0, none⟩ (HM.out 0 _ rfl)
    have := HM.out j v hj
    rw [Nat.zero_add]
    unfold World.cell? at this ⊢
    rw [Below.heap_setCell _ _ _ _ hmf, hw1, Below.heap_alloc _ _ _ (by simpa using hml)]
    exact this) (by simp; omega) (by simp [Value.oneCell'])
  have HW1 : Hid (w1 = w.drew.alloc (.cells cur 5)) := hw1
  have HF1 : Hid (w1.heap[f]? = some (.cells (flC none 0 0 0) 122 (0, 0))) := hf1
  have HR : Hid ((w1.setCell ⟨f, 1, none⟩ (.slice (some ⟨w.heap.size, 0, none⟩) 3 cur.size)).heap[w.heap.size]? = some (.cells cur 5 (0, 0))) := hrow
  clear hw1 hf1 hrow
  go_wp2
  all_goals (first | go_end0 | refine bodyPost_ret (results_none rfl _ _ _) rfl ?_)
  have hX : (Value.int .u8 97 :: Value.int .u8 98 :: Value.int .u8 99 :: cur.toList.drop 3).toArray.size = cur.size := by simp; omega
  refine ⟨rfl, (Value.int .u8 97 :: Value.int .u8 98 :: Value.int .u8 99 :: cur.toList.drop 3).toArray, ?_, setRow_heap _ _ cur _ _ _ HR.out, by omega, by omega, rfl, ?_, fun k hk hkf => ?_, fun B v hB h => ?_⟩
  · rw [setRow_other _ _ _ _ (Ne.symm hNf), hX]
    exact heap_setD _ HF1.out
  · simp only [size_setRow, World.size_setCell]
    rw [HW1.out]; simp
  · rw [setRow_other _ _ _ _ (by omega), Below.heap_setCell _ _ _ _ hkf, HW1.out, Below.heap_alloc _ _ _ (by simpa using hk)]
    rfl
  · refine below_setRow (Below.setCell (p := ⟨f, 1, none⟩) ?_ hB _) (by omega) _
    rw [HW1.out]
    exact (dnBelow_drew h).alloc (by show B ≤ w.heap.size; omega) _

/-- One byte more behind the first three. -/
theorem append_more {f g m cm : Nat} {cur : Array Value} {w : World} (hf : w.heap[f]? = some (.cells (flC (some ⟨g, 0, none⟩) 3 cur.size 3) 122 (0, 0))) (hg : w.heap[g]? = some (.cells cur 5 (0, 0))) (hc : 3 ≤ cur.size) (hc63 : cur.size ≤ 9223372036854775807) (ht : cur.toList.take 3 = abcV) (hm : w.cell? ⟨m, 0, none⟩ = some (.int .u8 100)) (hmf : m ≠ f) (hgf : g ≠ f) :
    Calls Tryz.prog 69 #[.pointer (some ⟨f, 0, none⟩), .slice (some ⟨m, 0, none⟩) 1 cm] w fun e w' => e = .returned (.tuple #[]) ∧ ∃ (g' : Nat) (cur' : Array Value), (g' = g ∨ w.heap.size ≤ g') ∧ w'.heap[f]? = some (.cells (flC (some ⟨g', 0, none⟩) 4 cur'.size 3) 122 (0, 0)) ∧ w'.heap[g']? = some (.cells cur' 5 (0, 0)) ∧ 4 ≤ cur'.size ∧ cur'.size ≤ 9223372036854775807 ∧ cur'.toList.take 3 = abcV ∧ w.heap.size ≤ w'.heap.size ∧ (∀ k, k < w.heap.size → k ≠ f → k ≠ g → w'.heap[k]? = w.heap[k]?) ∧ (∀ (B : Nat) (v : World), B ≤ f → B ≤ g → Below B v w → Below B v w') := by
  obtain ⟨c0, c1, c2⟩ := fl_cells hf
  have hl := lt_of_block hf
  have hgl := lt_of_block hg
  by_cases hroom : 4 ≤ cur.size
  · have HG : Hid (Calls Tryz.prog 98 #[.slice (some ⟨g, 0, none⟩) 3 cur.size, .int .i64 1] w fun e w' => e = .returned (.slice (some ⟨g, 0, none⟩) 3 cur.size) ∧ w' = w) := Tryz.grow_room _ 3 cur.size 1 w hc hc63 (by omega) hroom
    have fr1 : w.frozen? ⟨f, 1, none⟩ = false := frozen_of_row w f 1 _ _ hf
    have HF : Hid (w.heap[f]? = some (.cells (flC (some ⟨g, 0, none⟩) 3 cur.size 3) 122 (0, 0))) := hf
    have hcI : (4 : Int) ≤ (cur.size : Int) := by omega
    have hrow : (w.setCell ⟨f, 1, none⟩ (.slice (some ⟨g, 0, none⟩) 4 cur.size)).heap[g]? = some (.cells cur 5 (0, 0)) := by
      rw [Below.heap_setCell _ _ _ _ hgf]; exact hg
    have hcp := run_copy_row (P := Tryz.prog) (w.setCell ⟨f, 1, none⟩ (.slice (some ⟨g, 0, none⟩) 4 cur.size)) 58 58 3 5 g 3 1 (cur.size - 3) ⟨m, 0, none⟩ 1 cm cur 5 [.int .u8 100] Tryz.underlying58 (by kernel_rfl) hrow rfl (fun j v hj => by
      cases j with
      | zero =>
        simp at hj; subst hj
        rw [Addr.add_lit, Nat.zero_add]
        unfold World.cell? at hm ⊢
        rw [Below.heap_setCell _ _ _ _ hmf]
        exact hm
      | succ j => simp at hj) (by simp; omega) (by simp [Value.oneCell'])
    have HR : Hid ((w.setCell ⟨f, 1, none⟩ (.slice (some ⟨g, 0, none⟩) 4 cur.size)).heap[g]? = some (.cells cur 5 (0, 0))) := hrow
    have HT : Hid (cur.toList.take 3 = abcV) := ht
    clear hrow hf hg ht hm
    go_enter Tryz.func69, Tryz.ntmps69
    go_wp2_with (go_at_call 98; refine (HG.out).mono ?_; rintro e w1 ⟨rfl, rfl⟩)
    all_goals (first | go_end0 | refine bodyPost_ret (results_none rfl _ _ _) rfl ?_)
    have hX : (cur.toList.take 3 ++ [Value.int .u8 100] ++ cur.toList.drop 4).toArray.size = cur.size := by simp; omega
    have hX3 : (cur.toList.take 3 ++ [Value.int .u8 100] ++ cur.toList.drop 4).take 3 = abcV := by
      rw [List.append_assoc, List.take_append_of_le_length (by simp; omega), List.take_take, ← HT.out]
      rfl
    refine ⟨rfl, g, (cur.toList.take 3 ++ [Value.int .u8 100] ++ cur.toList.drop 4).toArray, .inl rfl, ?_, ?_, by omega, by omega, hX3, ?_, fun k hk hkf hkg => ?_, fun B v hB hBg h => ?_⟩
    · rw [setRow_other _ _ _ _ (Ne.symm hgf), hX]
      exact heap_setD _ HF.out
    · first | exact setRow_heap _ _ cur _ _ _ HR.out | (have := setRow_heap _ g cur (cur.toList.take 3 ++ [Value.int .u8 100] ++ cur.toList.drop 4).toArray _ _ HR.out; simpa using this)
    · simp
    · rw [setRow_other _ _ _ _ hkg, Below.heap_setCell _ _ _ _ hkf]
    · exact below_setRow (Below.setCell (p := ⟨f, 1, none⟩) h hB _) hBg _
  · have hc3 : cur.size = 3 := by omega
    have hcl : cur.toList = abcV := by rw [← ht, List.take_of_length_le (by simp; omega)]
    have HG : Hid (Calls Tryz.prog 98 #[.slice (some ⟨g, 0, none⟩) 3 3, .int .i64 1] w fun e w' => ∃ cur : Array Value, e = .returned (.slice (some ⟨w.heap.size, 0, none⟩) 3 cur.size) ∧ w' = w.drew.alloc (.cells cur 5) ∧ 3 + 1 ≤ cur.size ∧ cur.size ≤ 9223372036854775807 ∧ cur.toList.take 3 = abcV) := grow_new (some ⟨g, 0, none⟩) 3 3 1 abcV w (by omega) (by omega) (by omega) rfl (fun h => by cases h) (fun a ha j v hj => by
      cases ha
      rw [Addr.add_lit, Nat.zero_add, cell_of_row w g j _ _ _ hg]
      rw [← Array.getElem?_toList, hcl]
      exact hj)
    have HF : Hid (w.heap[f]? = some (.cells (flC (some ⟨g, 0, none⟩) 3 3 3) 122 (0, 0))) := by rw [hc3] at hf; exact hf
    have HM : Hid (w.cell? ⟨m, 0, none⟩ = some (.int .u8 100)) := hm
    rw [hc3] at c1
    clear hf hm ht hcl hg
    go_enter Tryz.func69, Tryz.ntmps69
    go_wp2_with fail
    go_at_call 98
    refine (HG.out).mono ?_
    rintro e w1 ⟨cu, rfl, hw1, hc4, hcu63, hcut⟩
    have hf1 : w1.heap[f]? = some (.cells (flC (some ⟨g, 0, none⟩) 3 3 3) 122 (0, 0)) := by rw [hw1, Below.heap_alloc _ _ _ (by simpa using hl)]; exact HF.out
    have hfl1 := lt_of_block hf1
    obtain ⟨d0, d1, d2⟩ := fl_cells hf1
    have fr1 : w1.frozen? ⟨f, 1, none⟩ = false := frozen_of_row w1 f 1 _ _ hf1
    have hcI : (4 : Int) ≤ (cu.size : Int) := by omega
    have hNf : w.heap.size ≠ f := by omega
    have hrow : (w1.setCell ⟨f, 1, none⟩ (.slice (some ⟨w.heap.size, 0, none⟩) 4 cu.size)).heap[w.heap.size]? = some (.cells cu 5 (0, 0)) := by
      rw [Below.heap_setCell _ _ _ _ hNf, hw1]; exact heap_alloc_new w.drew _
    have hcp := run_copy_row (P := Tryz.prog) (w1.setCell ⟨f, 1, none⟩ (.slice (some ⟨w.heap.size, 0, none⟩) 4 cu.size)) 58 58 3 5 w.heap.size 3 1 (cu.size - 3) ⟨m, 0, none⟩ 1 cm cu 5 [.int .u8 100] Tryz.underlying58 (by kernel_rfl) hrow rfl (fun j v hj => by
      cases j with
      | zero =>
        simp at hj; subst hj
        have hml : m < w.heap.size := World.block_lt_of_cell? w ⟨m, 0, none⟩ HM.out
        have hm := HM.out
        rw [Addr.add_lit, Nat.zero_add]
        unfold World.cell? at hm ⊢
        rw [Below.heap_setCell _ _ _ _ hmf, hw1, Below.heap_alloc _ _ _ (by simpa using hml)]
        exact hm
      | succ j => simp at hj) (by simp; omega) (by simp [Value.oneCell'])
    have HW1 : Hid (w1 = w.drew.alloc (.cells cu 5)) := hw1
    have HF1 : Hid (w1.heap[f]? = some (.cells (flC (some ⟨g, 0, none⟩) 3 3 3) 122 (0, 0))) := hf1
    have HR : Hid ((w1.setCell ⟨f, 1, none⟩ (.slice (some ⟨w.heap.size, 0, none⟩) 4 cu.size)).heap[w.heap.size]? = some (.cells cu 5 (0, 0))) := hrow
    have HT : Hid (cu.toList.take 3 = abcV) := hcut
    clear hw1 hf1 hrow hcut
    go_wp2
    all_goals (first | go_end0 | refine bodyPost_ret (results_none rfl _ _ _) rfl ?_)
    have hX : (cu.toList.take 3 ++ [Value.int .u8 100] ++ cu.toList.drop 4).toArray.size = cu.size := by simp; omega
    have hX3 : (cu.toList.take 3 ++ [Value.int .u8 100] ++ cu.toList.drop 4).take 3 = abcV := by
      rw [List.append_assoc, List.take_append_of_le_length (by simp; omega), List.take_take, ← HT.out]
      rfl
    refine ⟨rfl, w.heap.size, (cu.toList.take 3 ++ [Value.int .u8 100] ++ cu.toList.drop 4).toArray, .inr (Nat.le_refl _), ?_, ?_, by omega, by omega, hX3, ?_, fun k hk hkf hkg => ?_, fun B v hB hBg h => ?_⟩
    · rw [setRow_other _ _ _ _ (Ne.symm hNf), hX]
      exact heap_setD _ HF1.out
    · first | exact setRow_heap _ _ cu _ _ _ HR.out | (have := setRow_heap _ w.heap.size cu (cu.toList.take 3 ++ [Value.int .u8 100] ++ cu.toList.drop 4).toArray _ _ HR.out; simpa using this)
    · simp only [size_setRow, World.size_setCell]
      rw [HW1.out]; simp
    · rw [setRow_other _ _ _ _ (by omega), Below.heap_setCell _ _ _ _ hkf, HW1.out, Below.heap_alloc _ _ _ (by simpa using hk)]
      rfl
    · refine below_setRow (Below.setCell (p := ⟨f, 1, none⟩) ?_ hB _) (by omega) _
      rw [HW1.out]
      exact (dnBelow_drew h).alloc (by show B ≤ w.heap.size; omega) _

end Go.Proofs.YtbdokdhconhifaaGreatDoor

/- Package disk at one small file named a: the first Append, and the one behind it. -/
namespace Go.Proofs.YtbdokdhconhifaaGreatDoor
open Go.RowKit Go.Shelf
set_option maxRecDepth 8000

theorem ne_tyD {w : World} {x y : Nat} {c1 c2 : Array Value} {T1 T2 : TypeId} {f1 f2 : Nat × Nat} (h1 : w.heap[x]? = some (.cells c1 T1 f1)) (h2 : w.heap[y]? = some (.cells c2 T2 f2)) (h : T1 ≠ T2) : x ≠ y := by
  rintro rfl
  rw [h1] at h2
  simp only [Option.some.injEq, Obj.cells.injEq] at h2
  exact h h2.2.1

theorem crowded0 {d : Nat} {w : World} (h : w.cell? ⟨d, 0, none⟩ = some (.slice none 0 0)) : Calls Tryz.prog 66 #[.pointer (some ⟨d, 0, none⟩)] w fun e w' => e = .returned (.bool false) ∧ w' = w := by
  go_enter Tryz.func66, Tryz.ntmps66
  go_wp2
  all_goals (go_ret; exact ⟨rfl, rfl⟩)

/-- A disk with the one file. -/
structure S1 (w V : World) (d b f g : Nat) (cF : Nat) (rF cur : Array Value) (l : Nat) (dur wr : Int) (on : Bool) : Prop where
  hd : V.heap[d]? = some (.cells (dkC (.slice (some ⟨b, 0, none⟩) 1 cF) on wr) 76 (0, 0))
  hb : V.heap[b]? = some (.cells rF 90 (0, 0))
  hb0 : rF[0]? = some (.pointer (some ⟨f, 0, none⟩))
  hf : V.heap[f]? = some (.cells (flC (some ⟨g, 0, none⟩) l cur.size dur) 122 (0, 0))
  hg : V.heap[g]? = some (.cells cur 5 (0, 0))
  hl : l ≤ cur.size
  h3 : 3 ≤ cur.size
  h63 : cur.size ≤ 9223372036854775807
  ht : cur.toList.take 3 = abcV
  bel : Below w.heap.size w V
  ed : w.heap.size ≤ d
  eb : w.heap.size ≤ b
  ef : w.heap.size ≤ f
  eg : w.heap.size ≤ g

section
variable {w V V' : World} {d b f g cF : Nat} {rF cur : Array Value} {l : Nat} {dur wr : Int} {on : Bool}

theorem S1.below (h : S1 w V d b f g cF rF cur l dur wr on) (hB : Below V.heap.size V V') : S1 w V' d b f g cF rF cur l dur wr on :=
  ⟨(hB.block _ (lt_of_block h.hd)).trans h.hd, (hB.block _ (lt_of_block h.hb)).trans h.hb, h.hb0, (hB.block _ (lt_of_block h.hf)).trans h.hf, (hB.block _ (lt_of_block h.hg)).trans h.hg, h.hl, h.h3, h.h63, h.ht, h.bel.trans (hB.mono h.bel.size), h.ed, h.eb, h.ef, h.eg⟩

theorem S1.cb (h : S1 w V d b f g cF rF cur l dur wr on) : V.cell? ⟨b, 0, none⟩ = some (.pointer (some ⟨f, 0, none⟩)) := (cell_of_row V b 0 _ _ _ h.hb).trans h.hb0
end

theorem below_a (w : World) (o : Obj) : Below w.heap.size w (w.alloc o) := (Below.refl _ w).alloc (Nat.le_refl _) _

set_option maxHeartbeats 1000000 in
/-- The first Append. -/
theorem append_0 {d m cm : Nat} {w0 w : World} (h : w.heap[d]? = some (.cells (dkC (.slice none 0 0) true 0) 76 (0, 0))) (hm : ∀ j v, abcV[j]? = some v → w.cell? ⟨m, j, none⟩ = some v) (hmd : m ≠ d) (hbel : Below w0.heap.size w0 w) (hed : w0.heap.size ≤ d) :
    Calls Tryz.prog 30 #[.pointer (some ⟨d, 0, none⟩), .string aB, .slice (some ⟨m, 0, none⟩) 3 cm] w fun e w' => e = .returned (.int .i64 0) ∧ ∃ b f g cF rF cur, S1 w0 w' d b f g cF rF cur 3 0 1 true := by
  have hml : m < w.heap.size := World.block_lt_of_cell? w ⟨m, 0, none⟩ (hm 0 _ rfl)
  have hdl := lt_of_block h
  obtain ⟨W1, hW1⟩ : ∃ W, W = w.alloc (.cells #[.string aB] 9) := ⟨_, rfl⟩
  have B1 : Below w.heap.size w W1 := by rw [hW1]; exact below_a _ _
  have h1 : W1.heap[d]? = some (.cells (dkC (.slice none 0 0) true 0) 76 (0, 0)) := (B1.block _ hdl).trans h
  have hn1 : W1.cell? ⟨w.heap.size, 0, none⟩ = some (.string aB) := by rw [hW1]; exact cell_of_row _ w.heap.size 0 _ _ _ (heap_alloc_new _ _)
  have HRe : Hid (∀ V, V = W1 → Calls Tryz.prog 70 #[.pointer (some ⟨d, 0, none⟩), .slice (some ⟨w.heap.size, 0, none⟩) 1 1] V fun e w' => e = .returned (.int .i64 0) ∧ w' = W1) := fun V hV => by subst hV; exact ready_a h1 hn1
  have HFi : Hid (Calls Tryz.prog 65 #[.pointer (some ⟨d, 0, none⟩), .string aB] W1 fun e w' => e = .returned (.pointer none) ∧ w' = W1) := find0 (dk_cells h1).1
  have HCr : Hid (Calls Tryz.prog 66 #[.pointer (some ⟨d, 0, none⟩)] W1 fun e w' => e = .returned (.bool false) ∧ w' = W1) := crowded0 (dk_cells h1).1
  have HFt : Hid (Calls Tryz.prog 67 #[.pointer (some ⟨d, 0, none⟩), .int .i64 3] W1 fun e w' => e = .returned (.bool true) ∧ w' = W1.drew) := fits_yes 3 0 10 h1 (used0 (dk_cells h1).1) (by decide) (by decide)
  have HWr : Hid (Calls Tryz.prog 71 #[.pointer (some ⟨d, 0, none⟩)] W1.drew fun e w' => e = .returned (.int .i64 0) ∧ w'.heap[d]? = some (.cells (dkC (.slice none 0 0) true (0 + 1)) 76 (0, 0)) ∧ w'.heap.size = W1.heap.size ∧ (∀ k, k ≠ d → w'.heap[k]? = W1.heap[k]?) ∧ (∀ (B : Nat) (v : World), B ≤ d → Below B v W1.drew → Below B v w')) := write_ok h1 (by omega) (by omega)
  have HW1 : Hid (W1 = w.alloc (.cells #[.string aB] 9)) := hW1
  have HB1 : Hid (Below w.heap.size w W1) := B1
  have HM : Hid (∀ j v, abcV[j]? = some v → w.cell? ⟨m, j, none⟩ = some v) := hm
  have HBel : Hid (Below w0.heap.size w0 w) := hbel
  clear h hm hW1 B1 h1 hn1 hbel
  go_enter Tryz.func30, Tryz.ntmps30
  go_wp2_with fail
  go_at_call 70
  refine (HRe.out _ HW1.out.symm).mono ?_
  rintro e w1 ⟨rfl, hw⟩
  subst hw
  go_wp2_with fail
  go_at_call 65
  refine (HFi.out).mono ?_
  rintro e w2 ⟨rfl, hw⟩
  subst hw
  go_wp2_with fail
  go_at_call 66
  refine (HCr.out).mono ?_
  rintro e w3 ⟨rfl, hw⟩
  subst hw
  go_wp2_with fail
  go_at_call 67
  refine (HFt.out).mono ?_
  rintro e w4 ⟨rfl, hw⟩
  subst hw
  go_wp2_with fail
  go_at_call 71
  refine (HWr.out).mono ?_
  rintro e w5 ⟨rfl, q1, q2, q3, q4⟩
  have HA : Hid (Calls Tryz.prog 68 #[.pointer (some ⟨d, 0, none⟩), .string aB] w5 fun e w' => e = .returned (.pointer (some ⟨w5.heap.size, 0, none⟩)) ∧ ∃ b cap cur, w'.heap[d]? = some (.cells (dkC (.slice (some ⟨b, 0, none⟩) 1 cap) true 1) 76 (0, 0)) ∧ w5.heap.size < b ∧ w'.heap[b]? = some (.cells cur 90 (0, 0)) ∧ cur[0]? = some (.pointer (some ⟨w5.heap.size, 0, none⟩)) ∧ w'.heap[w5.heap.size]? = some (.cells (flC none 0 0 0) 122 (0, 0)) ∧ w5.heap.size < w'.heap.size ∧ (∀ k, k < w5.heap.size → k ≠ d → w'.heap[k]? = w5.heap[k]?) ∧ (∀ (B : Nat) (v : World), B ≤ d → Below B v w5 → Below B v w')) := add0 q1
  have HQ : Hid (w5.heap.size = w3.heap.size ∧ (∀ k, k ≠ d → w5.heap[k]? = w3.heap[k]?) ∧ (∀ (B : Nat) (v : World), B ≤ d → Below B v w3.drew → Below B v w5)) := ⟨q2, q3, q4⟩
  clear q1 q2 q3 q4
  go_wp2_with fail
  go_at_call 68
  refine (HA.out).mono ?_
  rintro e w6 ⟨rfl, b, cF, rF, r1, r2, r3, r4, r5, r6, r7, r8⟩
  have hsz : w5.heap.size = w.heap.size + 1 := by rw [HQ.out.1, HW1.out]; simp
  have hm6 : ∀ j v, abcV[j]? = some v → w6.cell? ⟨m, j, none⟩ = some v := fun j v hj => by
    have := HM.out j v hj
    unfold World.cell? at this ⊢
    rw [r7 m (by omega) hmd, HQ.out.2.1 m hmd, HB1.out.block _ hml]
    exact this
  have HAp : Hid (Calls Tryz.prog 69 #[.pointer (some ⟨w5.heap.size, 0, none⟩), .slice (some ⟨m, 0, none⟩) 3 cm] w6 fun e w' => e = .returned (.tuple #[]) ∧ ∃ cur : Array Value, w'.heap[w5.heap.size]? = some (.cells (flC (some ⟨w6.heap.size, 0, none⟩) 3 cur.size 0) 122 (0, 0)) ∧ w'.heap[w6.heap.size]? = some (.cells cur 5 (0, 0)) ∧ 3 ≤ cur.size ∧ cur.size ≤ 9223372036854775807 ∧ cur.toList.take 3 = abcV ∧ w6.heap.size < w'.heap.size ∧ (∀ k, k < w6.heap.size → k ≠ w5.heap.size → w'.heap[k]? = w6.heap[k]?) ∧ (∀ (B : Nat) (v : World), B ≤ w5.heap.size → Below B v w6 → Below B v w')) := append_first r5 hm6 (by omega)
  have HS : Hid (∀ w' : World, (∃ cur : Array Value, w'.heap[w5.heap.size]? = some (.cells (flC (some ⟨w6.heap.size, 0, none⟩) 3 cur.size 0) 122 (0, 0)) ∧ w'.heap[w6.heap.size]? = some (.cells cur 5 (0, 0)) ∧ 3 ≤ cur.size ∧ cur.size ≤ 9223372036854775807 ∧ cur.toList.take 3 = abcV ∧ w6.heap.size < w'.heap.size ∧ (∀ k, k < w6.heap.size → k ≠ w5.heap.size → w'.heap[k]? = w6.heap[k]?) ∧ (∀ (B : Nat) (v : World), B ≤ w5.heap.size → Below B v w6 → Below B v w')) → ∃ b f g cF rF cur, S1 w0 w' d b f g cF rF cur 3 0 1 true) := by
    rintro w' ⟨cur, t1, t2, t3, t4, t5, t6, t7, t8⟩
    have hd6 := lt_of_block r1
    have hb6 := lt_of_block r3
    have hw0 := HBel.out.size
    refine ⟨b, w5.heap.size, w6.heap.size, cF, rF, cur, (t7 _ hd6 (by omega)).trans r1, (t7 _ hb6 (by omega)).trans r3, r4, t1, t2, t3, t3, t4, t5, ?_, hed, by omega, by omega, by omega⟩
    refine t8 _ _ (by omega) (r8 _ _ hed (HQ.out.2.2 _ _ hed (dnBelow_drew (HBel.out.trans (HB1.out.mono hw0)))))
  clear r1 r2 r3 r4 r5 r6 r7 r8 hm6 hsz
  go_wp2_with fail
  go_at_call 69
  refine (HAp.out).mono ?_
  rintro e w7 ⟨rfl, hq⟩
  have HE : Hid (∃ b f g cF rF cur, S1 w0 w7 d b f g cF rF cur 3 0 1 true) := HS.out w7 hq
  clear hq
  go_wp2
  all_goals (go_ret; exact ⟨rfl, HE.out⟩)

end Go.Proofs.YtbdokdhconhifaaGreatDoor
