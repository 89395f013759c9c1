/- Package disk at one small file named a: the second Append, New, and what lives of the statements of layer 2 answers. -/
import Derived.Test.YtkpdckpcnnmdkaaDnGJ
import Derived.Lib.SlBytesConst
namespace Go.Proofs.Ytkpdckpcnnmdkaa
open Go.RowKit Go.Shelf
set_option maxRecDepth 8000

section
variable {w0 V : World} {d b f g cF : Nat} {rF cur : Array Value}

set_option maxHeartbeats 1000000 in
theorem append_1 {m cm : Nat} (h : S1 w0 V d b f g cF rF cur 3 3 2 true) (hm : V.cell? ⟨m, 0, none⟩ = some (.int .u8 100)) (hmd : m ≠ d) (hmf : m ≠ f) :
    Calls Try.prog 38 #[.pointer (some ⟨d, 0, none⟩), .string aB, .slice (some ⟨m, 0, none⟩) 1 cm] V fun e w' => e = .returned (.int .i64 0) ∧ ∃ g' cur', S1 w0 w' d b f g' cF rF cur' 4 3 3 true := by
  have hml : m < V.heap.size := World.block_lt_of_cell? V ⟨m, 0, none⟩ hm
  obtain ⟨W1, hW1⟩ : ∃ W, W = V.alloc (.cells #[.string aB] 9) := ⟨_, rfl⟩
  have B1 : Below V.heap.size V W1 := by rw [hW1]; exact below_a _ _
  have h1 := h.below B1
  have hn1 : W1.cell? ⟨V.heap.size, 0, none⟩ = some (.string aB) := by rw [hW1]; exact cell_of_row _ V.heap.size 0 _ _ _ (heap_alloc_new _ _)
  have hm1 : W1.cell? ⟨m, 0, none⟩ = some (.int .u8 100) := by
    unfold World.cell? at hm ⊢
    rw [B1.block _ hml]
    exact hm
  have hD : S1 w0 W1.drew d b f g cF rF cur 3 3 2 true := h1.below ⟨rfl, rfl, rfl, Nat.le_refl _, fun _ _ => rfl⟩
  have HRe : Hid (∀ V', V' = W1 → Calls Try.prog 72 #[.pointer (some ⟨d, 0, none⟩), .slice (some ⟨V.heap.size, 0, none⟩) 1 1] V' fun e w' => e = .returned (.int .i64 0) ∧ w' = W1) := fun V' hV => by subst hV; exact ready_a h1.hd hn1
  have HFi : Hid (Calls Try.prog 67 #[.pointer (some ⟨d, 0, none⟩), .string aB] W1 fun e w' => e = .returned (.pointer (some ⟨f, 0, none⟩)) ∧ w' = W1) := find1 (dk_cells h1.hd).1 h1.cb h1.hf
  have HFt : Hid (Calls Try.prog 69 #[.pointer (some ⟨d, 0, none⟩), .int .i64 1] W1 fun e w' => e = .returned (.bool true) ∧ w' = W1.drew) := fits_yes 1 3 7 h1.hd (used1 (l := 3) (dk_cells hD.hd).1 hD.cb hD.hf (by decide)) (by decide) (by decide)
  have HWr : Hid (Calls Try.prog 73 #[.pointer (some ⟨d, 0, none⟩)] W1.drew fun e w' => e = .returned (.int .i64 0) ∧ S1 w0 w' d b f g cF rF cur 3 3 3 true ∧ w'.cell? ⟨m, 0, none⟩ = some (.int .u8 100)) :=
    (write_ok hD.hd (by omega) (by omega)).mono (fun e w' hh => ⟨hh.1, hD.setD hh.2.1 hh.2.2.2.1 (hh.2.2.2.2 _ _ hD.ed hD.bel), by
      have := hm1
      unfold World.cell? at this ⊢
      rw [hh.2.2.2.1 m hmd]
      exact this⟩)
  have HW1 : Hid (W1 = V.alloc (.cells #[.string aB] 9)) := hW1
  clear h hm hW1 B1 h1 hn1 hm1 hD
  go_enter Try.func38, Try.ntmps38
  go_wp2_with fail
  go_at_call 72
  refine (HRe.out _ HW1.out.symm).mono ?_
  rintro e w1 ⟨rfl, hw⟩
  subst hw
  go_wp2_with fail
  go_at_call 67
  refine (HFi.out).mono ?_
  rintro e w2 ⟨rfl, hw⟩
  subst hw
  go_wp2_with fail
  go_at_call 69
  refine (HFt.out).mono ?_
  rintro e w4 ⟨rfl, hw⟩
  subst hw
  go_wp2_with fail
  go_at_call 73
  refine (HWr.out).mono ?_
  rintro e w5 ⟨rfl, q1, q2⟩
  have HAp : Hid (Calls Try.prog 71 #[.pointer (some ⟨f, 0, none⟩), .slice (some ⟨m, 0, none⟩) 1 cm] w5 fun e w' => e = .returned (.tuple #[]) ∧ Hid (∃ g' cur', S1 w0 w' d b f g' cF rF cur' 4 3 3 true)) :=
    (append_more q1.hf q1.hg q1.h3 q1.h63 q1.ht q2 hmf q1.ngf).mono (fun e w' hh => by
      obtain ⟨e1, g', cur', t0, t1, t2, t3, t4, t5, t6, t7, t8⟩ := hh
      have hdl := lt_of_block q1.hd
      have hbl := lt_of_block q1.hb
      have hge : w0.heap.size ≤ g' := by
        rcases t0 with rfl | t0
        · exact q1.eg
        · have := q1.bel.size; omega
      exact ⟨e1, g', cur', (t7 _ hdl (Ne.symm q1.nfd) (Ne.symm q1.ngd)).trans q1.hd, (t7 _ hbl q1.nbf q1.nbg).trans q1.hb, q1.hb0, t1, t2, t3, by omega, t4, t5, t8 _ _ q1.ef q1.eg q1.bel, q1.ed, q1.eb, q1.ef, hge⟩)
  clear q1 q2
  go_wp2_with fail
  go_at_call 71
  refine (HAp.out).mono ?_
  rintro e w7 ⟨rfl, HE⟩
  go_wp2
  all_goals (go_ret; exact ⟨rfl, HE.out⟩)
end

theorem from_10 (w : World) : Calls Try.prog 21 #[.int .i64 10, .slice none 0 0] w fun e w' => e = .returned (.tuple #[.pointer (some ⟨w.heap.size, 0, none⟩), .int .i64 0]) ∧ w' = w.alloc (.cells (dkC (.slice none 0 0) true 0) 56) := by
  go_enter Try.func21, Try.ntmps21
  go_wp2
  go_loopw [21] (fun vi w2 => vi = .int .i64 0 ∧ w2 = w.alloc (.cells (dkC (.slice none 0 0) true 0) 56)) (fun _ _ => 0)
  case atStart => exact ⟨rfl, rfl⟩
  case round =>
    obtain ⟨rfl, rfl⟩ := hrel
    go_wp2
    all_goals (go_ret2; exact ⟨rfl, rfl⟩)

theorem new_10 (w : World) : Calls Try.prog 8 #[.int .i64 10] w fun e w' => e = .returned (.tuple #[.pointer (some ⟨w.heap.size, 0, none⟩), .int .i64 0]) ∧ w' = w.alloc (.cells (dkC (.slice none 0 0) true 0) 56) := by
  have HF : Hid (Calls Try.prog 21 #[.int .i64 10, .slice none 0 0] w fun e w' => e = .returned (.tuple #[.pointer (some ⟨w.heap.size, 0, none⟩), .int .i64 0]) ∧ w' = w.alloc (.cells (dkC (.slice none 0 0) true 0) 56)) := from_10 w
  go_enter Try.func8, Try.ntmps8
  go_wp2_with (go_at_call 21; refine (HF.out).mono ?_; rintro e w1 ⟨rfl, rfl⟩)
  all_goals (go_ret2; exact ⟨rfl, rfl⟩)

theorem text_abc {c : Nat} {w : World} (h : w.heap[c]? = some (.cells abcV.toArray 5 (0, 0))) : (convert 45 9 (.slice (some ⟨c, 0, none⟩) 3 3)).run Try.prog w = .ok (.string ⟨#[97, 98, 99]⟩) w := by
  have := run_convert_bytes_arg (P := Try.prog) w 45 5 Try.underlying45 Try.underlying5 c 0 3 3 [97, 98, 99] rfl (fun i hi => by
    rw [Nat.zero_add, cell_of_row w c i _ _ _ h]
    have hi3 : i = 0 ∨ i = 1 ∨ i = 2 := by omega
    rcases hi3 with rfl | rfl | rfl <;> rfl) 9 Try.underlying9
  rw [this]
  rfl

end Go.Proofs.Ytkpdckpcnnmdkaa
