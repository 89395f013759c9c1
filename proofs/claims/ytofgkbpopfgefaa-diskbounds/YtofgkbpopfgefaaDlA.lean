/- For DiskBounds: a call that is refused changes nothing; the document's names. -/
import Derived.Test.YtofgkbpopfgefaaDkY
import Derived.Laws.Cover1
namespace Go.Proofs.Ytofgkbpopfgefaa
open Go.RowKit Go.Shelf
set_option maxRecDepth 8000

theorem act_no {D : DkD} {e : Int} {fs : List FiD} (h : (D.act e fs).1 ≠ 0) : (D.act e fs).2.files = D.files ∧ (D.act e fs).2.writes = D.writes := by
  unfold DkD.act at h ⊢
  split
  · rename_i he
    split
    · exact ⟨off_files D, off_writes D⟩
    · rename_i ha
      rw [if_pos he, if_neg ha] at h
      exact absurd rfl h
  · exact ⟨rfl, rfl⟩

theorem actK_no {D : DkD} {o : OpK} (h : (actK D o).1 ≠ 0) : (actK D o).2.files = D.files ∧ (actK D o).2.writes = D.writes := by
  unfold actK at h ⊢
  split
  · rename_i h1; rw [if_pos h1] at h; exact act_no h
  · rename_i h1
    rw [if_neg h1] at h
    split
    · rename_i h2; rw [if_pos h2] at h; exact act_no h
    · rename_i h2
      rw [if_neg h2] at h
      split
      · rename_i h3; rw [if_pos h3] at h; exact act_no h
      · rename_i h3
        rw [if_neg h3] at h
        split
        · rename_i h4; rw [if_pos h4] at h; exact act_no h
        · rename_i h4
          rw [if_neg h4] at h
          split
          · rename_i h5; rw [if_pos h5] at h; exact act_no h
          · exact ⟨rfl, rfl⟩

theorem less_of_cmp : ∀ (a b : List UInt8), Lib.compareBytes a b < 0 → Op.bytesLess a b = true
  | [], [], h => by simp [Lib.compareBytes] at h
  | [], _ :: _, _ => rfl
  | _ :: _, [], h => by simp [Lib.compareBytes] at h
  | a :: x, b :: y, h => by
    unfold Lib.compareBytes at h
    unfold Op.bytesLess
    by_cases h1 : a < b
    · simp [h1]
    · rw [if_neg h1] at h
      by_cases h2 : b < a
      · rw [if_pos h2] at h; simp at h
      · rw [if_neg h2] at h
        have e : a = b := by
          have h1' : ¬ a.toNat < b.toNat := h1
          have h2' : ¬ b.toNat < a.toNat := h2
          exact UInt8.toNat_inj.1 (by omega)
        simp [e, less_of_cmp x y h]

theorem less_name {a b : ByteArray} (h : ncmp a b < 0) : Op.bytesLess a.toList b.toList = true := by
  rw [ByteArray.toList_eq, ByteArray.toList_eq]
  exact less_of_cmp _ _ h

theorem rise_at {fs : List FiD} (hr : Rise fs) (i : Nat) (hi : i + 1 < fs.length) : ncmp fs[i].name fs[i + 1].name < 0 :=
  List.pairwise_iff_getElem.1 hr i (i + 1) (by omega) hi (by omega)

theorem used_take (fs : List FiD) (i : Nat) (hi : i < fs.length) : usedD (fs.take (i + 1)) = usedD (fs.take i) + fs[i].bytes.length := by
  rw [List.take_add_one, List.getElem?_eq_getElem hi, usedD_append]
  simp [usedD]

set_option maxHeartbeats 1000000 in
theorem refName_yes (n : ByteArray) (h : isNm n = true) (w : World) : Calls Try.prog 26 #[.string n] w fun e w' => e = .returned (.bool true) ∧ w' = w := by
  unfold isNm at h
  simp only [Bool.and_eq_true, decide_eq_true_eq] at h
  obtain ⟨⟨h1, h2⟩, h3⟩ := h
  have H3 : Hid _ := h3
  clear h3
  have hz : n.data.toList.length = n.size := by rw [Array.length_toList]; rfl
  have d1 : decide ((n.size : Int) ≥ 1) = true := by simp; omega
  have d2 : decide ((n.size : Int) ≤ 24) = true := by simp; omega
  go_enter Try.func26, Try.ntmps26
  go_wp2_with fail
  go_loopw [3] (fun vi wr => ∃ k : Nat, k ≤ n.size ∧ vi = .int .i64 k ∧ wr = w) (fun vi _ => n.size - (intOf vi).toNat)
  case atStart => exact ⟨0, Nat.zero_le _, rfl, rfl⟩
  case round =>
    obtain ⟨k, hk, rfl, rfl⟩ := hrel
    by_cases hlt : k < n.size
    · have hnk : n.data.toList[k] = n[k] := by rw [Array.getElem_toList]; rfl
      have hch : chB n[k].toNat = true := by
        have := List.all_eq_true.1 H3.out n[k] (by rw [← hnk]; exact List.getElem_mem _)
        exact this
      have hc := (chB_iff _).1 hch
      clear hch hnk
      go_wp2_with fail
      all_goals (try simp only [bne_eq_false_iff_eq] at *)
      all_goals (first | exact ⟨⟨k + 1, by omega, by go_num, by trivial⟩, by simp [intOf]; omega⟩ | (exfalso; omega))
    · obtain rfl : k = n.size := by omega
      go_wp2_with fail
      go_ret
      exact ⟨rfl, rfl⟩
end Go.Proofs.Ytofgkbpopfgefaa
