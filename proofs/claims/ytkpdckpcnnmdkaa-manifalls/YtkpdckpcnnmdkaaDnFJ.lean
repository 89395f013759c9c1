/- Package disk at one small file named a: the first Append, and the one behind it. -/
import Derived.Test.YtkpdckpcnnmdkaaDnEJ
namespace Go.Proofs.Ytkpdckpcnnmdkaa
open Go.RowKit Go.Shelf
set_option maxRecDepth 8000

theorem ne_tyD {w : World} {x y : Nat} {c1 c2 : Array Value} {T1 T2 : TypeId} {f1 f2 : Nat × Nat} (h1 : w.heap[x]? = some (.cells c1 T1 f1)) (h2 : w.heap[y]? = some (.cells c2 T2 f2)) (h : T1 ≠ T2) : x ≠ y := by
  rintro rfl
  rw [h1] at h2
  simp only [Option.some.injEq, Obj.cells.injEq] at h2
  exact h h2.2.1

theorem crowded0 {d : Nat} {w : World} (h : w.cell? ⟨d, 0, none⟩ = some (.slice none 0 0)) : Calls Try.prog 68 #[.pointer (some ⟨d, 0, none⟩)] w fun e w' => e = .returned (.bool false) ∧ w' = w := by
  go_enter Try.func68, Try.ntmps68
  go_wp2
  all_goals (go_ret; exact ⟨rfl, rfl⟩)

/-- A disk with the one file. -/
structure S1 (w V : World) (d b f g : Nat) (cF : Nat) (rF cur : Array Value) (l : Nat) (dur wr : Int) (on : Bool) : Prop where
  hd : V.heap[d]? = some (.cells (dkC (.slice (some ⟨b, 0, none⟩) 1 cF) on wr) 56 (0, 0))
  hb : V.heap[b]? = some (.cells rF 62 (0, 0))
  hb0 : rF[0]? = some (.pointer (some ⟨f, 0, none⟩))
  hf : V.heap[f]? = some (.cells (flC (some ⟨g, 0, none⟩) l cur.size dur) 81 (0, 0))
  hg : V.heap[g]? = some (.cells cur 5 (0, 0))
  hl : l ≤ cur.size
  h3 : 3 ≤ cur.size
  h63 : cur.size ≤ 9223372036854775807
  ht : cur.toList.take 3 = abcV
  bel : Below w.heap.size w V
  ed : w.heap.size ≤ d
  eb : w.heap.size ≤ b
  ef : w.heap.size ≤ f
  eg : w.heap.size ≤ g

section
variable {w V V' : World} {d b f g cF : Nat} {rF cur : Array Value} {l : Nat} {dur wr : Int} {on : Bool}

theorem S1.below (h : S1 w V d b f g cF rF cur l dur wr on) (hB : Below V.heap.size V V') : S1 w V' d b f g cF rF cur l dur wr on :=
  ⟨(hB.block _ (lt_of_block h.hd)).trans h.hd, (hB.block _ (lt_of_block h.hb)).trans h.hb, h.hb0, (hB.block _ (lt_of_block h.hf)).trans h.hf, (hB.block _ (lt_of_block h.hg)).trans h.hg, h.hl, h.h3, h.h63, h.ht, h.bel.trans (hB.mono h.bel.size), h.ed, h.eb, h.ef, h.eg⟩

theorem S1.cb (h : S1 w V d b f g cF rF cur l dur wr on) : V.cell? ⟨b, 0, none⟩ = some (.pointer (some ⟨f, 0, none⟩)) := (cell_of_row V b 0 _ _ _ h.hb).trans h.hb0
end

theorem below_a (w : World) (o : Obj) : Below w.heap.size w (w.alloc o) := (Below.refl _ w).alloc (Nat.le_refl _) _

set_option maxHeartbeats 1000000 in
/-- The first Append. -/
theorem append_0 {d m cm : Nat} {w0 w : World} (h : w.heap[d]? = some (.cells (dkC (.slice none 0 0) true 0) 56 (0, 0))) (hm : ∀ j v, abcV[j]? = some v → w.cell? ⟨m, j, none⟩ = some v) (hmd : m ≠ d) (hbel : Below w0.heap.size w0 w) (hed : w0.heap.size ≤ d) :
    Calls Try.prog 38 #[.pointer (some ⟨d, 0, none⟩), .string aB, .slice (some ⟨m, 0, none⟩) 3 cm] w fun e w' => e = .returned (.int .i64 0) ∧ ∃ b f g cF rF cur, S1 w0 w' d b f g cF rF cur 3 0 1 true := by
  have hml : m < w.heap.size := World.block_lt_of_cell? w ⟨m, 0, none⟩ (hm 0 _ rfl)
  have hdl := lt_of_block h
  obtain ⟨W1, hW1⟩ : ∃ W, W = w.alloc (.cells #[.string aB] 9) := ⟨_, rfl⟩
  have B1 : Below w.heap.size w W1 := by rw [hW1]; exact below_a _ _
  have h1 : W1.heap[d]? = some (.cells (dkC (.slice none 0 0) true 0) 56 (0, 0)) := (B1.block _ hdl).trans h
  have hn1 : W1.cell? ⟨w.heap.size, 0, none⟩ = some (.string aB) := by rw [hW1]; exact cell_of_row _ w.heap.size 0 _ _ _ (heap_alloc_new _ _)
  have HRe : Hid (∀ V, V = W1 → Calls Try.prog 72 #[.pointer (some ⟨d, 0, none⟩), .slice (some ⟨w.heap.size, 0, none⟩) 1 1] V fun e w' => e = .returned (.int .i64 0) ∧ w' = W1) := fun V hV => by subst hV; exact ready_a h1 hn1
  have HFi : Hid (Calls Try.prog 67 #[.pointer (some ⟨d, 0, none⟩), .string aB] W1 fun e w' => e = .returned (.pointer none) ∧ w' = W1) := find0 (dk_cells h1).1
  have HCr : Hid (Calls Try.prog 68 #[.pointer (some ⟨d, 0, none⟩)] W1 fun e w' => e = .returned (.bool false) ∧ w' = W1) := crowded0 (dk_cells h1).1
  have HFt : Hid (Calls Try.prog 69 #[.pointer (some ⟨d, 0, none⟩), .int .i64 3] W1 fun e w' => e = .returned (.bool true) ∧ w' = W1.drew) := fits_yes 3 0 10 h1 (used0 (dk_cells h1).1) (by decide) (by decide)
  have HWr : Hid (Calls Try.prog 73 #[.pointer (some ⟨d, 0, none⟩)] W1.drew fun e w' => e = .returned (.int .i64 0) ∧ w'.heap[d]? = some (.cells (dkC (.slice none 0 0) true (0 + 1)) 56 (0, 0)) ∧ w'.heap.size = W1.heap.size ∧ (∀ k, k ≠ d → w'.heap[k]? = W1.heap[k]?) ∧ (∀ (B : Nat) (v : World), B ≤ d → Below B v W1.drew → Below B v w')) := write_ok h1 (by omega) (by omega)
  have HW1 : Hid (W1 = w.alloc (.cells #[.string aB] 9)) := hW1
  have HB1 : Hid (Below w.heap.size w W1) := B1
  have HM : Hid (∀ j v, abcV[j]? = some v → w.cell? ⟨m, j, none⟩ = some v) := hm
  have HBel : Hid (Below w0.heap.size w0 w) := hbel
  clear h hm hW1 B1 h1 hn1 hbel
  go_enter Try.func38, Try.ntmps38
  go_wp2_with fail
  go_at_call 72
  refine (HRe.out _ HW1.out.symm).mono ?_
  rintro e w1 ⟨rfl, hw⟩
  subst hw
  go_wp2_with fail
  go_at_call 67
  refine (HFi.out).mono ?_
  rintro e w2 ⟨rfl, hw⟩
  subst hw
  go_wp2_with fail
  go_at_call 68
  refine (HCr.out).mono ?_
  rintro e w3 ⟨rfl, hw⟩
  subst hw
  go_wp2_with fail
  go_at_call 69
  refine (HFt.out).mono ?_
  rintro e w4 ⟨rfl, hw⟩
  subst hw
  go_wp2_with fail
  go_at_call 73
  refine (HWr.out).mono ?_
  rintro e w5 ⟨rfl, q1, q2, q3, q4⟩
  have HA : Hid (Calls Try.prog 70 #[.pointer (some ⟨d, 0, none⟩), .string aB] w5 fun e w' => e = .returned (.pointer (some ⟨w5.heap.size, 0, none⟩)) ∧ ∃ b cap cur, w'.heap[d]? = some (.cells (dkC (.slice (some ⟨b, 0, none⟩) 1 cap) true 1) 56 (0, 0)) ∧ w5.heap.size < b ∧ w'.heap[b]? = some (.cells cur 62 (0, 0)) ∧ cur[0]? = some (.pointer (some ⟨w5.heap.size, 0, none⟩)) ∧ w'.heap[w5.heap.size]? = some (.cells (flC none 0 0 0) 81 (0, 0)) ∧ w5.heap.size < w'.heap.size ∧ (∀ k, k < w5.heap.size → k ≠ d → w'.heap[k]? = w5.heap[k]?) ∧ (∀ (B : Nat) (v : World), B ≤ d → Below B v w5 → Below B v w')) := add0 q1
  have HQ : Hid (w5.heap.size = w3.heap.size ∧ (∀ k, k ≠ d → w5.heap[k]? = w3.heap[k]?) ∧ (∀ (B : Nat) (v : World), B ≤ d → Below B v w3.drew → Below B v w5)) := ⟨q2, q3, q4⟩
  clear q1 q2 q3 q4
  go_wp2_with fail
  go_at_call 70
  refine (HA.out).mono ?_
  rintro e w6 ⟨rfl, b, cF, rF, r1, r2, r3, r4, r5, r6, r7, r8⟩
  have hsz : w5.heap.size = w.heap.size + 1 := by rw [HQ.out.1, HW1.out]; simp
  have hm6 : ∀ j v, abcV[j]? = some v → w6.cell? ⟨m, j, none⟩ = some v := fun j v hj => by
    have := HM.out j v hj
    unfold World.cell? at this ⊢
    rw [r7 m (by omega) hmd, HQ.out.2.1 m hmd, HB1.out.block _ hml]
    exact this
  have HAp : Hid (Calls Try.prog 71 #[.pointer (some ⟨w5.heap.size, 0, none⟩), .slice (some ⟨m, 0, none⟩) 3 cm] w6 fun e w' => e = .returned (.tuple #[]) ∧ ∃ cur : Array Value, w'.heap[w5.heap.size]? = some (.cells (flC (some ⟨w6.heap.size, 0, none⟩) 3 cur.size 0) 81 (0, 0)) ∧ w'.heap[w6.heap.size]? = some (.cells cur 5 (0, 0)) ∧ 3 ≤ cur.size ∧ cur.size ≤ 9223372036854775807 ∧ cur.toList.take 3 = abcV ∧ w6.heap.size < w'.heap.size ∧ (∀ k, k < w6.heap.size → k ≠ w5.heap.size → w'.heap[k]? = w6.heap[k]?) ∧ (∀ (B : Nat) (v : World), B ≤ w5.heap.size → Below B v w6 → Below B v w')) := append_first r5 hm6 (by omega)
  have HS : Hid (∀ w' : World, (∃ cur : Array Value, w'.heap[w5.heap.size]? = some (.cells (flC (some ⟨w6.heap.size, 0, none⟩) 3 cur.size 0) 81 (0, 0)) ∧ w'.heap[w6.heap.size]? = some (.cells cur 5 (0, 0)) ∧ 3 ≤ cur.size ∧ cur.size ≤ 9223372036854775807 ∧ cur.toList.take 3 = abcV ∧ w6.heap.size < w'.heap.size ∧ (∀ k, k < w6.heap.size → k ≠ w5.heap.size → w'.heap[k]? = w6.heap[k]?) ∧ (∀ (B : Nat) (v : World), B ≤ w5.heap.size → Below B v w6 → Below B v w')) → ∃ b f g cF rF cur, S1 w0 w' d b f g cF rF cur 3 0 1 true) := by
    rintro w' ⟨cur, t1, t2, t3, t4, t5, t6, t7, t8⟩
    have hd6 := lt_of_block r1
    have hb6 := lt_of_block r3
    have hw0 := HBel.out.size
    refine ⟨b, w5.heap.size, w6.heap.size, cF, rF, cur, (t7 _ hd6 (by omega)).trans r1, (t7 _ hb6 (by omega)).trans r3, r4, t1, t2, t3, t3, t4, t5, ?_, hed, by omega, by omega, by omega⟩
    refine t8 _ _ (by omega) (r8 _ _ hed (HQ.out.2.2 _ _ hed (dnBelow_drew (HBel.out.trans (HB1.out.mono hw0)))))
  clear r1 r2 r3 r4 r5 r6 r7 r8 hm6 hsz
  go_wp2_with fail
  go_at_call 71
  refine (HAp.out).mono ?_
  rintro e w7 ⟨rfl, hq⟩
  have HE : Hid (∃ b f g cF rF cur, S1 w0 w7 d b f g cF rF cur 3 0 1 true) := HS.out w7 hq
  clear hq
  go_wp2
  all_goals (go_ret; exact ⟨rfl, HE.out⟩)

end Go.Proofs.Ytkpdckpcnnmdkaa
