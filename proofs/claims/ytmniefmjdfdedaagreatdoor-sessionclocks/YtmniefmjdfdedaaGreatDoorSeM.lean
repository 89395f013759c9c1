/- Lists of sessions of one's own: an append, the closure that All sorts by. -/
import Derived.Test.YtmniefmjdfdedaaGreatDoorSeE
import Derived.Shelf.SlSortCmp.InsertionK
namespace Go.Proofs.YtmniefmjdfdedaaGreatDoor
open Go.RowKit Go.Shelf
set_option maxRecDepth 8000
set_option linter.unusedSimpArgs false

theorem Tryz.infoSs : (Tryz.prog.info? 93).map (fun i => (i.zero, i.size, i.bytes)) = some (some (.agg #[.int .i64 0, .int .i32 0]), 2, 16) := by kernel_rfl
/-- A session's cells. -/
def ssL (x : Int × Int) : List Value := [.int .i64 x.1, .int .i32 x.2]
theorem ssL_flat (l : List (Int × Int)) : (l.flatMap ssL).length = l.length * 2 := by
  induction l with
  | nil => rfl
  | cons x r ih => simp [ssL, ih]; omega
/-- A list of sessions of one's own. -/
abbrev OS (w : World) (base : Nat) (v : Value) (l : List (Int × Int)) : Prop := w.ownsRow base 93 2 v l.length (l.flatMap ssL)
/-- One more session behind a list of one's own. -/
theorem app_s {w : World} {base m : Nat} {v : Value} {l : List (Int × Int)} {x : Int × Int} (ho : OS w base v l) (hm : w.heap[m]? = some (.cells #[.int .i64 x.1, .int .i32 x.2] 93 (0, 0))) (hl : l.length ≤ 2000000000) (hb : base ≤ w.heap.size) :
    ∃ v' w', (∀ ty, (Builtin.append_ #[49, 49] ty #[v, .slice (some ⟨m, 0, none⟩) 1 1]).run Tryz.prog w = .ok v' w') ∧ OS w' base v' (l ++ [x]) ∧ Kept w w' (fun k => v.ownBlock = some k) := by
  obtain ⟨i, hi, hz, hs, hby⟩ := infoX Tryz.infoSs
  obtain ⟨v', w', h1, h2, h3, h4⟩ := app_row (P := Tryz.prog) base 49 49 93 i _ 2 16 Tryz.underlying49 hi hz hs hby rfl (by decide) v l.length (l.flatMap ssL) ho m (ssL x) rfl hm (by simp [ssL, Value.oneCell']) hl (by decide) hb
  refine ⟨v', w', fun ty => h1, ?_, ⟨h3.os, h3.tape, h3.output, h3.size, fun k hk hn => h3.block k hk (fun e => hn e.symm)⟩⟩
  unfold OS
  rw [List.length_append, List.flatMap_append, show [x].flatMap ssL = ssL x by simp]
  exact h2

theorem isNaN64 (x : Int) (w : World) : Calls Tryz.prog 60 #[.int .i64 x] w fun e w' => e = .returned (.bool false) ∧ w' = w := by
  have hd : (x != x) = false := by simp
  go_enter Tryz.func60, Tryz.ntmps60
  go_wp2
  all_goals (go_ret; exact ⟨rfl, rfl⟩)
set_option maxHeartbeats 1000000 in
theorem cmp64 (x y : Int) (w : World) : Calls Tryz.prog 35 #[.int .i64 x, .int .i64 y] w fun e w' => e = .returned (.int .i64 (Lib.compareInt x y)) ∧ w' = w := by
  go_enter Tryz.func35, Tryz.ntmps35
  go_wp2_with (go_at_call 60; refine (isNaN64 _ _).mono ?_; rintro e w' ⟨rfl, hw⟩; rw [hw])
  all_goals (go_ret; refine ⟨?_, rfl⟩; unfold Lib.compareInt; (repeat' split) <;> first | rfl | (exfalso; omega))
theorem closureS (x y : Int × Int) (W : World) : Calls Tryz.prog 34 #[.agg #[.int .i64 x.1, .int .i32 x.2], .agg #[.int .i64 y.1, .int .i32 y.2]] W fun e w' => e = .returned (.int .i64 (Lib.compareInt x.1 y.1)) ∧ ∃ q os', w' = Sort.grow (W.drewN q) os' := by
  have hcon := fun W' => cmp64 x.1 y.1 W'
  generalize Lib.compareInt x.1 y.1 = r at hcon ⊢
  go_enter Tryz.func34, Tryz.ntmps34
  go_wp2_with (go_at_call 35; refine (hcon _).mono ?_; rintro e w' ⟨rfl, rfl⟩)
  go_ret
  exact ⟨rfl, 0, _, by rw [Sort.alloc_eq_grow, Sort.alloc_eq_grow, Sort.grow_grow]; rfl⟩

theorem flat_get : ∀ (l : List (Int × Int)) (t : Nat), t < l.length * 2 → (l.flatMap ssL)[t]? = some ((ssL l[t / 2]!)[t % 2]!)
  | [], t, h => by simp at h
  | x :: r, 0, h => by simp [ssL]
  | x :: r, 1, h => by simp [ssL]
  | x :: r, t + 2, h => by
    have := flat_get r t (by simp at h; omega)
    rw [show (t + 2) / 2 = t / 2 + 1 by omega, show (t + 2) % 2 = t % 2 by omega, List.flatMap_cons]
    simp only [ssL, List.cons_append, List.nil_append, List.getElem?_cons_succ]
    rw [this]
    simp [ssL]
theorem flatK_list (l : List (Int × Int)) : (Sort.flatK ssL 2 l.toArray).toList = l.flatMap ssL := by
  apply List.ext_getElem?
  intro t
  by_cases h : t < l.length * 2
  · rw [flat_get l t h]
    have h2 : t < (Sort.flatK ssL 2 l.toArray).size := by simp; omega
    rw [Array.getElem?_toList, Array.getElem?_eq_getElem h2, ← getElem!_pos (Sort.flatK ssL 2 l.toArray) t h2, Sort.get_flatK _ _ _ _ (by simpa using h)]
    simp
  · rw [List.getElem?_eq_none (by simp; omega), List.getElem?_eq_none (by rw [ssL_flat]; omega)]
theorem holds_ss {w : World} {g : Nat} {cur : Array Value} {e : TypeId} {l : List (Int × Int)} (hb : w.heap[g]? = some (.cells cur e (0, 0))) (ht : cur.toList.take (l.length * 2) = l.flatMap ssL) : Sort.HoldsK ssL 2 w g 0 l.toArray := by
  intro j hj
  have hj' : j < l.length * 2 := by simpa using hj
  refine ⟨?_, by simp [World.frozen?, hb]⟩
  have h1 : (cur.toList.take (l.length * 2))[j]? = (l.flatMap ssL)[j]? := by rw [ht]
  rw [List.getElem?_take_of_lt hj', flat_get l j hj'] at h1
  simp only [World.cell?, hb, Nat.zero_add]
  simp only [Option.isSome_none, Bool.false_eq_true, if_false]
  rw [← Array.getElem?_toList, h1, Sort.get_flatK _ _ _ _ (by simpa using hj')]
  simp
theorem heap_ss {w : World} {g n : Nat} {os : Array Obj} {cur : Array Value} {e : TypeId} {fr : Nat × Nat} (d : Array (Int × Int)) (hb : w.heap[g]? = some (.cells cur e fr)) :
    (sortWorldK ssL 2 w g 0 n d os).heap[g]? = some (.cells (Sort.putCells id 0 (Sort.flatK ssL 2 d) cur) e fr) := by
  have hg : g < w.heap.size := (Array.getElem?_eq_some_iff.1 hb).1
  unfold sortWorldK Sort.putRowK
  rw [Sort.heap_grow_old _ _ (by simpa using hg)]
  simp [Sort.putRow, Sort.mapBlock, Sort.ahead, Array.getElem?_modify, hb, Sort.onCells]
theorem kept_ss {w : World} {g n : Nat} {os : Array Obj} (d : Array (Int × Int)) : w.grownBy (sortWorldK ssL 2 w g 0 n d os) (some g) := by
  unfold sortWorldK Sort.putRowK
  refine ⟨rfl, rfl, rfl, by simp, fun k hk hne => ?_⟩
  rw [Sort.heap_grow_old _ _ (by simpa using hk)]
  have : g ≠ k := fun e => hne (by rw [e])
  simp [Sort.putRow, Sort.mapBlock, Sort.ahead, Array.getElem?_modify, this]
theorem take_ss (cur : Array Value) (ts : List (Int × Int)) (h : ts.length * 2 ≤ cur.size) : (Sort.putCells id 0 (Sort.flatK ssL 2 ts.toArray) cur).toList.take (ts.length * 2) = ts.flatMap ssL := by
  rw [← flatK_list]
  apply List.ext_getElem?
  intro j
  by_cases hj : j < ts.length * 2
  · rw [List.getElem?_take_of_lt hj, Array.getElem?_toList, Array.getElem?_toList]
    simp [Sort.putCells, hj, show j < cur.size by omega]
  · rw [List.getElem?_take_eq_none (by omega), List.getElem?_eq_none (by simp; omega)]

end Go.Proofs.YtmniefmjdfdedaaGreatDoor
