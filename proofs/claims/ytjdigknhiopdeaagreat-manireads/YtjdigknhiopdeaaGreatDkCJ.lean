/- The disk's smaller steps: used, isName, ready, fits, On, Off, Arm, write. -/
import Derived.Test.YtjdigknhiopdeaaGreatDkBJ
import Derived.Deep.RegionHeld
namespace Go.Proofs.YtjdigknhiopdeaaGreat
open Go.RowKit Go.Shelf
set_option maxRecDepth 8000

def usedD (fs : List FiD) : Nat := (fs.map (·.bytes.length)).sum

theorem usedD_take (fs : List FiD) (k : Nat) (hk : k < fs.length) : usedD (fs.take (k + 1)) = usedD (fs.take k) + fs[k].bytes.length := by
  unfold usedD
  rw [List.take_add_one, List.getElem?_eq_getElem hk]
  simp only [List.map_append, List.sum_append, Option.toList, List.map_cons, List.map_nil, List.sum_cons, List.sum_nil, Nat.add_zero]

theorem usedD_take_le (fs : List FiD) (k : Nat) : usedD (fs.take k) ≤ usedD fs := by
  have h : usedD fs = usedD (fs.take k) + usedD (fs.drop k) := by
    unfold usedD
    rw [← List.sum_append, ← List.map_append, List.take_append_drop]
  omega

theorem own_shape {w : World} {v : Value} {xs : List Int} (h : Owns w 0 v xs) : ∃ a c, v = .slice a xs.length c ∧ xs.length ≤ c ∧ c ≤ maxLen := by
  obtain ⟨h0, ⟨rfl, e⟩ | ⟨g, cap, cur, rfl, _, _, h4, h5, _⟩⟩ := h
  · exact ⟨none, 0, by rw [e], by omega, by unfold maxLen; omega⟩
  · exact ⟨_, _, rfl, h4, h5⟩

set_option maxHeartbeats 400000 in
theorem used_any {w : World} {p : Nat} {fv : Value} {ms : List FiM} {D : DkD} (h : IsDk w p fv ms D) (hfew : D.files.length ≤ 64) (hu : usedD D.files ≤ 1000000000000) :
    Calls Tryz.prog 94 #[.pointer (some ⟨p, 0, none⟩)] w fun e w' => e = .returned (.int .i64 (usedD D.files)) ∧ w' = w := by
  have c0 : w.cell? ⟨p, 0, none⟩ = some fv := cell_of_row w p 0 _ _ _ h.row
  have hl := lt_of_block h.row
  have hlen := h.len
  obtain ⟨fa, fc, hfv, hc1, hc2⟩ := fv_shape h
  have HX : Hid (∀ k (hk : k < D.files.length), ∃ g m ba bc, fa = some ⟨g, 0, none⟩ ∧ w.cell? ⟨g, k, none⟩ = some (.pointer (some ⟨m, 0, none⟩)) ∧ m < w.heap.size ∧ w.cell? ⟨m, 1, none⟩ = some (.slice ba D.files[k].bytes.length bc)) := fun k hk => by
    obtain ⟨g, cap, h1, h2⟩ := ptr_at h k (by omega)
    rw [hfv] at h1
    cases h1
    have hf := h.file k _ _ (List.getElem?_eq_getElem (by omega)) (List.getElem?_eq_getElem hk)
    obtain ⟨ba, bc, e, _⟩ := own_shape hf.own
    refine ⟨g, _, ba, bc, rfl, h2, lt_of_block hf.row, ?_⟩
    rw [cell_of_row w _ 1 _ _ _ hf.row, ← e]
    rfl
  subst hfv
  rw [hlen] at c0
  clear h hc1
  go_enter Tryz.func94, Tryz.ntmps94
  go_wp2_with fail
  go_loopw [3, 11] (fun vs vi wr => ∃ k : Nat, k ≤ D.files.length ∧ vi = .int .i64 k ∧ vs = .int .i64 (usedD (D.files.take k)) ∧ wr = w) (fun _ vi _ => D.files.length - (intOf vi).toNat)
  case atStart => exact ⟨0, Nat.zero_le _, rfl, by simp [usedD], rfl⟩
  case round =>
    obtain ⟨k, hk, rfl, rfl, rfl⟩ := hrel
    by_cases hlt : k < D.files.length
    · obtain ⟨g, m, ba, bc, hfa, d0, hm, d1⟩ := HX.out k hlt
      have e1 := usedD_take D.files k hlt
      have e2 := usedD_take_le D.files (k + 1)
      subst hfa
      have hb : usedD (D.files.take k) + D.files[k].bytes.length ≤ 1000000000000 := by omega
      have HE : Hid _ := e1
      clear e1 e2
      go_wp2_with fail
      go_roundw
      case rel => exact ⟨k + 1, by omega, by go_num, by rw [HE.out]; go_num, by trivial⟩
      case measure => simp [intOf]; omega
    · obtain rfl : k = D.files.length := by omega
      go_wp2_with fail
      go_ret
      exact ⟨by rw [List.take_length]; rfl, rfl⟩

/-- A letter that a name may have. -/
def chB (c : Nat) : Bool := (decide (97 ≤ c) && decide (c ≤ 122)) || (decide (48 ≤ c) && decide (c ≤ 57)) || c == 46
def isNm (n : ByteArray) : Bool := decide (1 ≤ n.size) && decide (n.size ≤ 24) && n.data.toList.all (fun c => chB c.toNat)

theorem chB_iff (c : Nat) : chB c = true ↔ (97 ≤ c ∧ c ≤ 122) ∨ (48 ≤ c ∧ c ≤ 57) ∨ c = 46 := by
  unfold chB
  simp only [Bool.or_eq_true, Bool.and_eq_true, decide_eq_true_eq, beq_iff_eq, or_assoc]

theorem all_take {α : Type} (l : List α) (f : α → Bool) (k : Nat) (hk : k < l.length) : (l.take (k + 1)).all f = ((l.take k).all f && f l[k]) := by
  rw [List.take_add_one, List.getElem?_eq_getElem hk, List.all_append]
  simp

set_option maxHeartbeats 1000000 in
theorem dkName_any (n : ByteArray) (w : World) : Calls Tryz.prog 77 #[.string n] w fun e w' => e = .returned (.bool (isNm n)) ∧ w' = w := by
  by_cases h1 : 1 ≤ n.size
  · by_cases h2 : n.size ≤ 24
    · have d1 : decide ((n.size : Int) < 1) = false := by simp; omega
      have d2 : decide ((n.size : Int) > 24) = false := by simp; omega
      have hz : n.data.toList.length = n.size := by rw [Array.length_toList]; rfl
      have HN : Hid (isNm n = n.data.toList.all (fun c => chB c.toNat)) := by show _ = _; unfold isNm; rw [decide_eq_true h1, decide_eq_true h2]; rfl
      go_enter Tryz.func77, Tryz.ntmps77
      go_wp2_with fail
      go_loopw [15] (fun vi wr => ∃ k : Nat, k ≤ n.size ∧ vi = .int .i64 k ∧ Hid ((n.data.toList.take k).all (fun c => chB c.toNat) = true) ∧ wr = w) (fun vi _ => n.size - (intOf vi).toNat)
      case atStart => exact ⟨0, Nat.zero_le _, rfl, by show _ = _; simp, rfl⟩
      case round =>
        obtain ⟨k, hk, rfl, HA, rfl⟩ := hrel
        by_cases hlt : k < n.size
        · have e1 := all_take n.data.toList (fun c => chB c.toNat) k (by omega)
          rw [HA.out, Bool.true_and] at e1
          have HE : Hid _ := e1
          clear e1
          have hnk : n.data.toList[k] = n[k] := by rw [Array.getElem_toList]; rfl
          rw [hnk] at HE
          have hch := chB_iff n[k].toNat
          have HNO : Hid (chB n[k].toNat = false → isNm n = false) := fun e => by
            rw [HN.out, List.all_eq_false]
            refine ⟨n[k], by rw [← hnk]; exact List.getElem_mem _, by rw [e]; simp⟩
          have HCH : Hid _ := hch
          clear hch hnk
          go_wp2_with fail
          all_goals (try simp only [bne_iff_ne, bne_eq_false_iff_eq, ne_eq] at *)
          all_goals (first | (refine ⟨⟨k + 1, by omega, by go_num, ?_, by trivial⟩, by simp [intOf]; omega⟩; (show _ = _); rw [HE.out]; (refine HCH.out.2 ?_); omega) | (rw [HNO.out (by rw [Bool.eq_false_iff]; intro e; have e := HCH.out.1 e; omega)]; go_ret; exact ⟨rfl, rfl⟩))
        · obtain rfl : k = n.size := by omega
          have HF : Hid (isNm n = true) := by
            show _ = _
            rw [HN.out]
            have := HA.out
            rw [List.take_of_length_le (by omega)] at this
            exact this
          go_wp2_with fail
          go_ret
          exact ⟨by rw [HF.out]; rfl, rfl⟩
    · have d1 : decide ((n.size : Int) < 1) = false := by simp; omega
      have d2 : decide ((n.size : Int) > 24) = true := by simp; omega
      have HF : Hid (isNm n = false) := by show _ = _; unfold isNm; simp [h2]
      go_enter Tryz.func77, Tryz.ntmps77
      go_wp2_with fail
      go_ret
      exact ⟨by rw [HF.out]; rfl, rfl⟩
  · have d1 : decide ((n.size : Int) < 1) = true := by simp; omega
    have HF : Hid (isNm n = false) := by show _ = _; unfold isNm; simp [h1]
    go_enter Tryz.func77, Tryz.ntmps77
    go_wp2_with fail
    go_ret
    exact ⟨by rw [HF.out]; rfl, rfl⟩
end Go.Proofs.YtjdigknhiopdeaaGreat
