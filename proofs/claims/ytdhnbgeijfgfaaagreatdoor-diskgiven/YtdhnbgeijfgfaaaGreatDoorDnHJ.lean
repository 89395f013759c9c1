/- Package disk at one small file named a: the second Append, New, and what lives of the statements of layer 2 answers. -/
import Derived.Test.YtdhnbgeijfgfaaaGreatDoorDnGJ
import Derived.Lib.SlBytesConst
namespace Go.Proofs.YtdhnbgeijfgfaaaGreatDoor
open Go.RowKit Go.Shelf
set_option maxRecDepth 8000

section
variable {w0 V : World} {d b f g cF : Nat} {rF cur : Array Value}

set_option maxHeartbeats 1000000 in
theorem append_1 {m cm : Nat} (h : S1 w0 V d b f g cF rF cur 3 3 2 true) (hm : V.cell? ⟨m, 0, none⟩ = some (.int .u8 100)) (hmd : m ≠ d) (hmf : m ≠ f) :
    Calls Tryz.prog 30 #[.pointer (some ⟨d, 0, none⟩), .string aB, .slice (some ⟨m, 0, none⟩) 1 cm] V fun e w' => e = .returned (.int .i64 0) ∧ ∃ g' cur', S1 w0 w' d b f g' cF rF cur' 4 3 3 true := by
  have hml : m < V.heap.size := World.block_lt_of_cell? V ⟨m, 0, none⟩ hm
  obtain ⟨W1, hW1⟩ : ∃ W, W = V.alloc (.cells #[.string aB] 9) := ⟨_, rfl⟩
  have B1 : Below V.heap.size V W1 := by rw [hW1]; exact below_a _ _
  have h1 := h.below B1
  have hn1 : W1.cell? ⟨V.heap.size, 0, none⟩ = some (.string aB) := by rw [hW1]; exact cell_of_row _ V.heap.size 0 _ _ _ (heap_alloc_new _ _)
  have hm1 : W1.cell? ⟨m, 0, none⟩ = some (.int .u8 100) := by
    unfold World.cell? at hm ⊢
    rw [B1.block _ hml]
    exact hm
  have hD : S1 w0 W1.drew d b f g cF rF cur 3 3 2 true := h1.below ⟨rfl, rfl, rfl, Nat.le_refl _, fun _ _ => rfl⟩
  have HRe : Hid (∀ V', V' = W1 → Calls Tryz.prog 57 #[.pointer (some ⟨d, 0, none⟩), .slice (some ⟨V.heap.size, 0, none⟩) 1 1] V' fun e w' => e = .returned (.int .i64 0) ∧ w' = W1) := fun V' hV => by subst hV; exact ready_a h1.hd hn1
  have HFi : Hid (Calls Tryz.prog 52 #[.pointer (some ⟨d, 0, none⟩), .string aB] W1 fun e w' => e = .returned (.pointer (some ⟨f, 0, none⟩)) ∧ w' = W1) := find1 (dk_cells h1.hd).1 h1.cb h1.hf
  have HFt : Hid (Calls Tryz.prog 54 #[.pointer (some ⟨d, 0, none⟩), .int .i64 1] W1 fun e w' => e = .returned (.bool true) ∧ w' = W1.drew) := fits_yes 1 3 7 h1.hd (used1 (l := 3) (dk_cells hD.hd).1 hD.cb hD.hf (by decide)) (by decide) (by decide)
  have HWr : Hid (Calls Tryz.prog 58 #[.pointer (some ⟨d, 0, none⟩)] W1.drew fun e w' => e = .returned (.int .i64 0) ∧ S1 w0 w' d b f g cF rF cur 3 3 3 true ∧ w'.cell? ⟨m, 0, none⟩ = some (.int .u8 100)) :=
    (write_ok hD.hd (by omega) (by omega)).mono (fun e w' hh => ⟨hh.1, hD.setD hh.2.1 hh.2.2.2.1 (hh.2.2.2.2 _ _ hD.ed hD.bel), by
      have := hm1
      unfold World.cell? at this ⊢
      rw [hh.2.2.2.1 m hmd]
      exact this⟩)
  have HW1 : Hid (W1 = V.alloc (.cells #[.string aB] 9)) := hW1
  clear h hm hW1 B1 h1 hn1 hm1 hD
  go_enter Tryz.func30, Tryz.ntmps30
  go_wp2_with fail
  go_at_call 57
  refine (HRe.out _ HW1.out.symm).mono ?_
  rintro e w1 ⟨rfl, hw⟩
  subst hw
  go_wp2_with fail
  go_at_call 52
  refine (HFi.out).mono ?_
  rintro e w2 ⟨rfl, hw⟩
  subst hw
  go_wp2_with fail
  go_at_call 54
  refine (HFt.out).mono ?_
  rintro e w4 ⟨rfl, hw⟩
  subst hw
  go_wp2_with fail
  go_at_call 58
  refine (HWr.out).mono ?_
  rintro e w5 ⟨rfl, q1, q2⟩
  have HAp : Hid (Calls Tryz.prog 56 #[.pointer (some ⟨f, 0, none⟩), .slice (some ⟨m, 0, none⟩) 1 cm] w5 fun e w' => e = .returned (.tuple #[]) ∧ Hid (∃ g' cur', S1 w0 w' d b f g' cF rF cur' 4 3 3 true)) :=
    (append_more q1.hf q1.hg q1.h3 q1.h63 q1.ht q2 hmf q1.ngf).mono (fun e w' hh => by
      obtain ⟨e1, g', cur', t0, t1, t2, t3, t4, t5, t6, t7, t8⟩ := hh
      have hdl := lt_of_block q1.hd
      have hbl := lt_of_block q1.hb
      have hge : w0.heap.size ≤ g' := by
        rcases t0 with rfl | t0
        · exact q1.eg
        · have := q1.bel.size; omega
      exact ⟨e1, g', cur', (t7 _ hdl (Ne.symm q1.nfd) (Ne.symm q1.ngd)).trans q1.hd, (t7 _ hbl q1.nbf q1.nbg).trans q1.hb, q1.hb0, t1, t2, t3, by omega, t4, t5, t8 _ _ q1.ef q1.eg q1.bel, q1.ed, q1.eb, q1.ef, hge⟩)
  clear q1 q2
  go_wp2_with fail
  go_at_call 56
  refine (HAp.out).mono ?_
  rintro e w7 ⟨rfl, HE⟩
  go_wp2
  all_goals (go_ret; exact ⟨rfl, HE.out⟩)
end

theorem from_10 (w : World) : Calls Tryz.prog 7 #[.int .i64 10, .slice none 0 0] w fun e w' => e = .returned (.tuple #[.pointer (some ⟨w.heap.size, 0, none⟩), .int .i64 0]) ∧ w' = w.alloc (.cells (dkC (.slice none 0 0) true 0) 57) := by
  go_enter Tryz.func7, Tryz.ntmps7
  go_wp2
  go_loopw [21] (fun vi w2 => vi = .int .i64 0 ∧ w2 = w.alloc (.cells (dkC (.slice none 0 0) true 0) 57)) (fun _ _ => 0)
  case atStart => exact ⟨rfl, rfl⟩
  case round =>
    obtain ⟨rfl, rfl⟩ := hrel
    go_wp2
    all_goals (go_ret2; exact ⟨rfl, rfl⟩)

theorem new_10 (w : World) : Calls Tryz.prog 29 #[.int .i64 10] w fun e w' => e = .returned (.tuple #[.pointer (some ⟨w.heap.size, 0, none⟩), .int .i64 0]) ∧ w' = w.alloc (.cells (dkC (.slice none 0 0) true 0) 57) := by
  have HF : Hid (Calls Tryz.prog 7 #[.int .i64 10, .slice none 0 0] w fun e w' => e = .returned (.tuple #[.pointer (some ⟨w.heap.size, 0, none⟩), .int .i64 0]) ∧ w' = w.alloc (.cells (dkC (.slice none 0 0) true 0) 57)) := from_10 w
  go_enter Tryz.func29, Tryz.ntmps29
  go_wp2_with (go_at_call 7; refine (HF.out).mono ?_; rintro e w1 ⟨rfl, rfl⟩)
  all_goals (go_ret2; exact ⟨rfl, rfl⟩)

theorem text_abc {c : Nat} {w : World} (h : w.heap[c]? = some (.cells abcV.toArray 5 (0, 0))) : (convert 36 9 (.slice (some ⟨c, 0, none⟩) 3 3)).run Tryz.prog w = .ok (.string ⟨#[97, 98, 99]⟩) w := by
  have := run_convert_bytes_arg (P := Tryz.prog) w 36 5 Tryz.underlying36 Tryz.underlying5 c 0 3 3 [97, 98, 99] rfl (fun i hi => by
    rw [Nat.zero_add, cell_of_row w c i _ _ _ h]
    have hi3 : i = 0 ∨ i = 1 ∨ i = 2 := by omega
    rcases hi3 with rfl | rfl | rfl <;> rfl) 9 Tryz.underlying9
  rw [this]
  rfl

set_option maxHeartbeats 2000000 in
theorem lives_yes (w : World) : Calls Tryz.prog 11 #[] w fun e w' => e = .returned (.bool true) ∧ Below w.heap.size w w' := by
  have HN : Hid (Calls Tryz.prog 29 #[.int .i64 10] w fun e w' => e = .returned (.tuple #[.pointer (some ⟨w.heap.size, 0, none⟩), .int .i64 0]) ∧ w' = w.alloc (.cells (dkC (.slice none 0 0) true 0) 57)) := new_10 w
  have HD1 : Hid ((w.alloc (.cells (dkC (.slice none 0 0) true 0) 57)).heap[w.heap.size]? = some (.cells (dkC (.slice none 0 0) true 0) 57 (0, 0)) ∧ Below w.heap.size w (w.alloc (.cells (dkC (.slice none 0 0) true 0) 57)) ∧ (w.alloc (.cells (dkC (.slice none 0 0) true 0) 57)).heap.size = w.heap.size + 1) := ⟨heap_alloc_new _ _, below_a _ _, by simp⟩
  obtain ⟨W1, hW1⟩ : ∃ W, W = w.alloc (.cells (dkC (.slice none 0 0) true 0) 57) := ⟨_, rfl⟩
  rw [← hW1] at HN HD1
  clear hW1
  go_enter Tryz.func11, Tryz.ntmps11
  go_wp2_with fail
  go_at_call 29
  refine (HN.out).mono ?_
  rintro e w1 ⟨rfl, hw⟩
  subst hw
  have HA : Hid (Calls Tryz.prog 30 #[.pointer (some ⟨w.heap.size, 0, none⟩), .string aB, .slice (some ⟨w1.heap.size, 0, none⟩) 3 3] (w1.alloc (.cells abcV.toArray 5 (3, 4))) fun e w' => e = .returned (.int .i64 0) ∧ ∃ b f g cF rF cur, S1 w w' w.heap.size b f g cF rF cur 3 0 1 true) := by
    have hB := below_a w1 (.cells abcV.toArray 5 (3, 4))
    have hr : (w1.alloc (.cells abcV.toArray 5 (3, 4))).heap[w1.heap.size]? = some (.cells abcV.toArray 5 (3, 4)) := heap_alloc_new _ _
    exact append_0 ((hB.block _ (by have := HD1.out.2.2; omega)).trans HD1.out.1) (fun j v hj => by rw [cell_of_row _ w1.heap.size j _ _ _ hr]; simpa using hj) (by have := HD1.out.2.2; omega) (HD1.out.2.1.trans (hB.mono HD1.out.2.1.size)) (Nat.le_refl _)
  have hcv : (convert 36 36 (.slice (some ⟨w1.heap.size, 0, none⟩) 3 3)).run Tryz.prog (w1.alloc (.cells #[.int .u8 97, .int .u8 98, .int .u8 99] 5)) = .ok (.slice (some ⟨w1.heap.size, 0, none⟩) 3 3) (w1.alloc (.cells #[.int .u8 97, .int .u8 98, .int .u8 99] 5 (3, 4))) := Lib.run_convert_bytes_const w1 36 5 _ 3 3 Tryz.underlying36 Tryz.underlying5
  go_wp2_with fail
  go_at_call 30
  refine (HA.out).mono ?_
  rintro e w2 ⟨rfl, b, f, g, cF, rF, cur, h2⟩
  have HS : Hid (Calls Tryz.prog 31 #[.pointer (some ⟨w.heap.size, 0, none⟩), .string aB] w2 fun e w' => e = .returned (.int .i64 0) ∧ S1 w w' w.heap.size b f g cF rF cur 3 3 2 true) := sync_1 h2 (by omega) (by omega)
  clear h2 HA HN HD1
  go_wp2_with fail
  go_at_call 31
  refine (HS.out).mono ?_
  rintro e w3 ⟨rfl, h3⟩
  have HA2 : Hid (Calls Tryz.prog 30 #[.pointer (some ⟨w.heap.size, 0, none⟩), .string aB, .slice (some ⟨w3.heap.size, 0, none⟩) 1 1] (w3.alloc (.cells #[.int .u8 100] 5 (1, 2))) fun e w' => e = .returned (.int .i64 0) ∧ ∃ g' cur', S1 w w' w.heap.size b f g' cF rF cur' 4 3 3 true) := by
    have hd := lt_of_block h3.hd
    have hf := lt_of_block h3.hf
    exact append_1 (h3.below (below_a w3 (.cells #[.int .u8 100] 5 (1, 2)))) (cell_of_row _ w3.heap.size 0 _ _ _ (heap_alloc_new _ _)) (by omega) (by omega)
  have hcv3 : (convert 36 36 (.slice (some ⟨w3.heap.size, 0, none⟩) 1 1)).run Tryz.prog (w3.alloc (.cells #[.int .u8 100] 5)) = .ok (.slice (some ⟨w3.heap.size, 0, none⟩) 1 1) (w3.alloc (.cells #[.int .u8 100] 5 (1, 2))) := Lib.run_convert_bytes_const w3 36 5 _ 1 1 Tryz.underlying36 Tryz.underlying5
  clear h3 HS
  go_wp2_with fail
  go_at_call 30
  refine (HA2.out).mono ?_
  rintro e w4 ⟨rfl, g', cur', h4⟩
  have HO : Hid (Calls Tryz.prog 32 #[.pointer (some ⟨w.heap.size, 0, none⟩)] w4 fun e w' => e = .returned (.tuple #[]) ∧ S1 w w' w.heap.size b f g' cF rF cur' 4 3 3 false) := off_1 h4
  clear h4 HA2
  go_wp2_with fail
  go_at_call 32
  refine (HO.out).mono ?_
  rintro e w5 ⟨rfl, h5⟩
  have HT : Hid (Calls Tryz.prog 33 #[.pointer (some ⟨w.heap.size, 0, none⟩), .slice none 0 0] w5 fun e w' => e = .returned (.tuple #[]) ∧ S1 w w' w.heap.size b f g' cF rF cur' 3 3 3 true) := start_1 h5
  clear h5 HO
  go_wp2_with fail
  go_at_call 33
  refine (HT.out).mono ?_
  rintro e w6 ⟨rfl, h6⟩
  have HR : Hid (Calls Tryz.prog 34 #[.pointer (some ⟨w.heap.size, 0, none⟩), .string aB] w6 fun e w' => ∃ c, e = .returned (.tuple #[.slice (some ⟨c, 0, none⟩) 3 3, .int .i64 0]) ∧ w'.heap[c]? = some (.cells abcV.toArray 5 (0, 0)) ∧ Below w.heap.size w w') := read_1 h6
  clear h6 HT
  go_wp2_with fail
  go_at_call 34
  refine (HR.out).mono ?_
  rintro e w7 ⟨c, rfl, h7, hB⟩
  have htx := text_abc h7
  have HB : Hid (Below w.heap.size w w7) := hB
  clear h7 hB HR
  go_wp2
  all_goals (go_ret; exact ⟨rfl, HB.out⟩)

end Go.Proofs.YtdhnbgeijfgfaaaGreatDoor
