/- The search for a name among a disk's files; find; used; isName. -/
import Derived.Test.YtbdokdhconhifaaGreatDoorShelfCJ
import Derived.Shelf.Abstract
import Derived.Deep.RegionHeld
namespace Go.Proofs.YtbdokdhconhifaaGreatDoor
open Go.RowKit Go.Shelf
set_option maxRecDepth 8000

theorem place1_any {m : FiM} {f : FiD} {w : World} (h : FileAt w m f) (n : ByteArray) : Calls Tryz.prog 102 #[.pointer (some ⟨m.q, 0, none⟩), .string n] w fun e w' => e = .returned (.int .i64 (ncmp f.name n)) ∧ w' = w := by
  have c0 : w.cell? ⟨m.q, 0, none⟩ = some (.string f.name) := cell_of_row w m.q 0 _ _ _ h.row
  have hl := lt_of_block h.row
  have HC : Hid (∀ V : World, Calls Tryz.prog 103 #[.string f.name, .string n] V fun e w' => e = .returned (.int .i64 (ncmp f.name n)) ∧ w' = V) := fun V => Tryz.strings_Compare f.name n V
  clear h
  go_enter Tryz.func102, Tryz.ntmps102
  go_wp2_with (go_at_call 103; refine (HC.out _).mono ?_; rintro e w' ⟨rfl, rfl⟩)
  all_goals (go_ret; exact ⟨rfl, rfl⟩)

set_option maxHeartbeats 1000000 in
theorem search_any {w : World} {fv : Value} {ms : List FiM} {fs : List FiD} (hown : w.ownsRow 0 90 1 fv ms.length (ptrs ms)) (hlen : ms.length = fs.length) (hfile : ∀ (k : Nat) m f, ms[k]? = some m → fs[k]? = some f → FileAt w m f) (hr : Rise fs) (hfew : fs.length ≤ 64) (n : ByteArray) :
    Calls Tryz.prog 101 #[fv, .string n, .func (.func 102) #[] #[]] w fun e w' => e = .returned (.tuple #[.int .i64 (pl fs n), .bool (hasF fs n)]) ∧ w' = w := by
  have hple := pl_le fs n
  have hcell : ∀ k, k < ms.length → ∃ g cap, fv = .slice (some ⟨g, 0, none⟩) ms.length cap ∧ w.cell? ⟨g, k, none⟩ = some (.pointer (some ⟨(ms[k]?.getD ⟨0, fv⟩).q, 0, none⟩)) := fun k hk => by
    obtain ⟨_, ⟨_, h0⟩ | ⟨g, cap, cur, rfl, _, h3, _, _, _, h7⟩⟩ := hown
    · omega
    · refine ⟨g, cap, rfl, ?_⟩
      rw [cell_of_row w g k _ _ _ h3]
      have := congrArg (fun l => l[k]?) h7
      simp only [Nat.mul_one, List.getElem?_take, List.getElem?_map] at this
      rw [if_pos hk] at this
      rw [← Array.getElem?_toList, this, List.getElem?_eq_getElem hk]
      rfl
  obtain ⟨fa, fc, hfv⟩ : ∃ fa fc, fv = .slice fa ms.length fc := by
    obtain ⟨_, ⟨rfl, h0⟩ | ⟨g, cap, cur, rfl, _⟩⟩ := hown
    · exact ⟨none, 0, by rw [h0]⟩
    · exact ⟨_, _, rfl⟩
  obtain ⟨cf, hcf⟩ : ∃ cf : Nat → Int, ∀ k (hk : k < fs.length), cf k = ncmp fs[k].name n := ⟨fun k => if hk : k < fs.length then ncmp fs[k].name n else 0, fun k hk => by simp only [hk, dif_pos]⟩
  obtain ⟨N, hN⟩ : ∃ N, N = fs.length := ⟨_, rfl⟩
  obtain ⟨P, hP⟩ : ∃ P, P = pl fs n := ⟨_, rfl⟩
  have HX : Hid (∀ k, k < N → ∃ g m, fa = some ⟨g, 0, none⟩ ∧ w.cell? ⟨g, k, none⟩ = some (.pointer (some ⟨m, 0, none⟩)) ∧ Calls Tryz.prog 102 #[.pointer (some ⟨m, 0, none⟩), .string n] w fun e w' => e = .returned (.int .i64 (cf k)) ∧ w' = w) := fun k hk => by
    obtain ⟨g, cap, h1, h2⟩ := hcell k (by omega)
    rw [hfv] at h1
    cases h1
    refine ⟨_, _, rfl, h2, ?_⟩
    rw [List.getElem?_eq_getElem (by omega), hcf k (by omega)]
    exact place1_any (hfile k _ _ (List.getElem?_eq_getElem _) (List.getElem?_eq_getElem _)) n
  have HH : Hid (∀ k, k < N → (cf k < 0 ↔ k < P)) := fun k hk => by rw [hcf k (by omega), hP]; exact pl_iff hr n k (by omega)
  have HS : Hid (P < N → hasF fs n = (cf P == 0)) := fun h => by
    rw [hcf P (by omega)]
    subst hP
    unfold hasF
    rw [Bool.eq_iff_iff, beq_iff_eq, decide_eq_true_iff, ncmp_eq]
    exact ⟨fun ⟨_, e⟩ => e, fun e => ⟨by omega, e⟩⟩
  have HN : Hid (¬ P < N → hasF fs n = false) := fun h => by
    unfold hasF
    rw [decide_eq_false_iff_not]
    exact fun ⟨e, _⟩ => h (by omega)
  rw [hlen, ← hN] at hfv
  rw [← hN, ← hP] at hple
  rw [← hN] at hfew
  rw [← hP]
  subst hfv
  clear hcell hown hfile hr hlen hcf hN hP
  generalize hasF fs n = hb at *
  clear fs
  go_enter Tryz.func101, Tryz.ntmps101
  go_wp2_with fail
  go_loopw [9, 10] (fun vi vj wr => ∃ i j : Nat, vi = .int .i64 i ∧ vj = .int .i64 j ∧ i ≤ P ∧ P ≤ j ∧ j ≤ N ∧ wr = w) (fun vi vj _ => (intOf vj - intOf vi).toNat)
  case atStart => exact ⟨0, N, rfl, rfl, by omega, hple, by omega, rfl⟩
  case round =>
    obtain ⟨i, j, rfl, rfl, h1, h2, h3, rfl⟩ := hrel
    by_cases hij : i < j
    · have hd : decide ((i : Int) < (j : Int)) = true := by simp; omega
      obtain ⟨g, m, hfa, c0, hc⟩ := HX.out ((i + j) / 2) (by omega)
      have HC : Hid _ := hc
      clear hc
      subst hfa
      go_wp2_with fail
      refine Calls.mono HC.out ?_
      rintro e w1 ⟨rfl, hw1⟩
      subst w1
      have hiff := HH.out ((i + j) / 2) (by omega)
      clear HC c0
      by_cases hlt : cf ((i + j) / 2) < 0
      · have hd2 : decide (cf ((i + j) / 2) < 0) = true := decide_eq_true hlt
        have hp := hiff.1 hlt
        go_wp2_with fail
        go_roundw
        case rel => exact ⟨(i + j) / 2 + 1, j, by go_num, rfl, by omega, h2, h3, by trivial⟩
        case measure => simp [intOf]; omega
      · have hd2 : decide (cf ((i + j) / 2) < 0) = false := decide_eq_false hlt
        have hp : ¬ (i + j) / 2 < P := fun e => hlt (hiff.2 e)
        go_wp2_with fail
        go_roundw
        case rel => exact ⟨i, (i + j) / 2, rfl, by go_num, h1, by omega, by omega, by trivial⟩
        case measure => simp [intOf]; omega
    · obtain rfl : i = P := by omega
      have hd : decide ((i : Int) < (j : Int)) = false := by simp; omega
      by_cases hPN : i < N
      · have hd1 : decide ((i : Int) < (N : Int)) = true := by simp; omega
        obtain ⟨g, m, hfa, c0, hc⟩ := HX.out i hPN
        have HC : Hid _ := hc
        obtain rfl : hb = (cf i == 0) := HS.out hPN
        clear hc
        subst hfa
        go_wp2_with fail
        refine Calls.mono HC.out ?_
        rintro e w1 ⟨rfl, hw1⟩
        subst w1
        go_wp2_with fail
        go_ret2
        exact ⟨rfl, rfl⟩
      · have hd1 : decide ((i : Int) < (N : Int)) = false := by simp; omega
        obtain rfl : hb = false := HN.out hPN
        go_wp2_with fail
        all_goals (go_ret2; exact ⟨rfl, rfl⟩)

/-- place: where a name lies, and whether it is there. -/
theorem place_any {w : World} {p : Nat} {fv : Value} {ms : List FiM} {D : DkD} (h : IsDk w p fv ms D) (hr : Rise D.files) (hfew : D.files.length ≤ 64) (n : ByteArray) :
    Calls Tryz.prog 96 #[.pointer (some ⟨p, 0, none⟩), .string n] w fun e w' => e = .returned (.tuple #[.int .i64 (pl D.files n), .bool (hasF D.files n)]) ∧ w' = w := by
  have c0 : w.cell? ⟨p, 0, none⟩ = some fv := cell_of_row w p 0 _ _ _ h.row
  have hl := lt_of_block h.row
  have HS : Hid _ := search_any h.own h.len h.file hr hfew n
  obtain ⟨fa, fc, hfv⟩ : ∃ fa fc, fv = .slice fa ms.length fc := by
    obtain ⟨_, ⟨rfl, h0⟩ | ⟨g, cap, cur, rfl, _⟩⟩ := h.own
    · exact ⟨none, 0, by rw [h0]⟩
    · exact ⟨_, _, rfl⟩
  subst hfv
  clear h hr
  go_enter Tryz.func96, Tryz.ntmps96
  go_wp2_with fail
  go_at_call 101
  refine Calls.mono HS.out ?_
  rintro e w1 ⟨rfl, hw1⟩
  subst w1
  go_wp2_with fail
  go_ret2
  exact ⟨rfl, rfl⟩

theorem fv_shape {w : World} {p : Nat} {fv : Value} {ms : List FiM} {D : DkD} (h : IsDk w p fv ms D) : ∃ fa fc, fv = .slice fa ms.length fc ∧ ms.length ≤ fc ∧ fc ≤ maxLen := by
  obtain ⟨_, ⟨rfl, h0⟩ | ⟨g, cap, cur, rfl, _, _, h4, h5, _⟩⟩ := h.own
  · exact ⟨none, 0, by rw [h0], by omega, by unfold maxLen; omega⟩
  · exact ⟨_, _, rfl, h4, h5⟩

theorem ptr_at {w : World} {p : Nat} {fv : Value} {ms : List FiM} {D : DkD} (h : IsDk w p fv ms D) (k : Nat) (hk : k < ms.length) : ∃ g cap, fv = .slice (some ⟨g, 0, none⟩) ms.length cap ∧ w.cell? ⟨g, k, none⟩ = some (.pointer (some ⟨ms[k].q, 0, none⟩)) := by
  obtain ⟨_, ⟨_, h0⟩ | ⟨g, cap, cur, rfl, _, h3, _, _, _, h7⟩⟩ := h.own
  · omega
  · refine ⟨g, cap, rfl, ?_⟩
    rw [cell_of_row w g k _ _ _ h3]
    have := congrArg (fun l => l[k]?) h7
    simp only [Nat.mul_one, List.getElem?_take, List.getElem?_map] at this
    rw [if_pos hk] at this
    rw [← Array.getElem?_toList, this, List.getElem?_eq_getElem hk]
    rfl

/-- find: the file of a name, or nil. -/
theorem find_any {w : World} {p : Nat} {fv : Value} {ms : List FiM} {D : DkD} (h : IsDk w p fv ms D) (hr : Rise D.files) (hfew : D.files.length ≤ 64) (n : ByteArray) :
    Calls Tryz.prog 65 #[.pointer (some ⟨p, 0, none⟩), .string n] w fun e w' => (e = if hasF D.files n = true then .returned (.pointer ((ms[pl D.files n]?).map fun m => ⟨m.q, 0, none⟩)) else .returned (.pointer none)) ∧ w' = w := by
  have c0 : w.cell? ⟨p, 0, none⟩ = some fv := cell_of_row w p 0 _ _ _ h.row
  have hl := lt_of_block h.row
  have HP : Hid _ := place_any h hr hfew n
  by_cases hb : hasF D.files n = true
  · obtain ⟨hlt, _⟩ := (hasF_iff _ _).1 hb
    have hlt' : pl D.files n < ms.length := by rw [h.len]; exact hlt
    obtain ⟨g, cap, hfv, cg⟩ := ptr_at h _ hlt'
    have hg : ms[pl D.files n]? = some ms[pl D.files n] := List.getElem?_eq_getElem hlt'
    have hm := h.len
    subst hfv
    generalize ms[pl D.files n] = mm at *
    rw [hb] at HP
    rw [if_pos hb, hg]
    clear h hr hg
    generalize pl D.files n = P at *
    go_enter Tryz.func65, Tryz.ntmps65
    go_wp2_with fail
    refine Calls.mono HP.out ?_
    rintro e w1 ⟨rfl, hw1⟩
    subst w1
    go_wp2_with fail
    go_ret
    exact ⟨rfl, rfl⟩
  · rw [if_neg hb]
    have hb' : hasF D.files n = false := by simpa using hb
    rw [hb'] at HP
    obtain ⟨fa, fc, hfv, _⟩ := fv_shape h
    subst hfv
    clear h hr
    go_enter Tryz.func65, Tryz.ntmps65
    go_wp2_with fail
    refine Calls.mono HP.out ?_
    rintro e w1 ⟨rfl, hw1⟩
    subst w1
    go_wp2_with fail
    go_ret
    exact ⟨rfl, rfl⟩
end Go.Proofs.YtbdokdhconhifaaGreatDoor

/- The disk's smaller steps: used, isName, ready, fits, On, Off, Arm, write. -/
namespace Go.Proofs.YtbdokdhconhifaaGreatDoor
open Go.RowKit Go.Shelf
set_option maxRecDepth 8000

def usedD (fs : List FiD) : Nat := (fs.map (·.bytes.length)).sum

theorem usedD_take (fs : List FiD) (k : Nat) (hk : k < fs.length) : usedD (fs.take (k + 1)) = usedD (fs.take k) + fs[k].bytes.length := by
  unfold usedD
  rw [List.take_add_one, List.getElem?_eq_getElem hk]
  simp only [List.map_append, List.sum_append, Option.toList, List.map_cons, List.map_nil, List.sum_cons, List.sum_nil, Nat.add_zero]

theorem usedD_take_le (fs : List FiD) (k : Nat) : usedD (fs.take k) ≤ usedD fs := by
  have h : usedD fs = usedD (fs.take k) + usedD (fs.drop k) := by
    unfold usedD
    rw [← List.sum_append, ← List.map_append, List.take_append_drop]
  omega

theorem own_shape {w : World} {v : Value} {xs : List Int} (h : Owns w 0 v xs) : ∃ a c, v = .slice a xs.length c ∧ xs.length ≤ c ∧ c ≤ maxLen := by
  obtain ⟨h0, ⟨rfl, e⟩ | ⟨g, cap, cur, rfl, _, _, h4, h5, _⟩⟩ := h
  · exact ⟨none, 0, by rw [e], by omega, by unfold maxLen; omega⟩
  · exact ⟨_, _, rfl, h4, h5⟩

set_option maxHeartbeats 400000 in
theorem used_any {w : World} {p : Nat} {fv : Value} {ms : List FiM} {D : DkD} (h : IsDk w p fv ms D) (hfew : D.files.length ≤ 64) (hu : usedD D.files ≤ 1000000000000) :
    Calls Tryz.prog 95 #[.pointer (some ⟨p, 0, none⟩)] w fun e w' => e = .returned (.int .i64 (usedD D.files)) ∧ w' = w := by
  have c0 : w.cell? ⟨p, 0, none⟩ = some fv := cell_of_row w p 0 _ _ _ h.row
  have hl := lt_of_block h.row
  have hlen := h.len
  obtain ⟨fa, fc, hfv, hc1, hc2⟩ := fv_shape h
  have HX : Hid (∀ k (hk : k < D.files.length), ∃ g m ba bc, fa = some ⟨g, 0, none⟩ ∧ w.cell? ⟨g, k, none⟩ = some (.pointer (some ⟨m, 0, none⟩)) ∧ m < w.heap.size ∧ w.cell? ⟨m, 1, none⟩ = some (.slice ba D.files[k].bytes.length bc)) := fun k hk => by
    obtain ⟨g, cap, h1, h2⟩ := ptr_at h k (by omega)
    rw [hfv] at h1
    cases h1
    have hf := h.file k _ _ (List.getElem?_eq_getElem (by omega)) (List.getElem?_eq_getElem hk)
    obtain ⟨ba, bc, e, _⟩ := own_shape hf.own
    refine ⟨g, _, ba, bc, rfl, h2, lt_of_block hf.row, ?_⟩
    rw [cell_of_row w _ 1 _ _ _ hf.row, ← e]
    rfl
  subst hfv
  rw [hlen] at c0
  clear h hc1
  go_enter Tryz.func95, Tryz.ntmps95
  go_wp2_with fail
  go_loopw [3, 11] (fun vs vi wr => ∃ k : Nat, k ≤ D.files.length ∧ vi = .int .i64 k ∧ vs = .int .i64 (usedD (D.files.take k)) ∧ wr = w) (fun _ vi _ => D.files.length - (intOf vi).toNat)
  case atStart => exact ⟨0, Nat.zero_le _, rfl, by simp [usedD], rfl⟩
  case round =>
    obtain ⟨k, hk, rfl, rfl, rfl⟩ := hrel
    by_cases hlt : k < D.files.length
    · obtain ⟨g, m, ba, bc, hfa, d0, hm, d1⟩ := HX.out k hlt
      have e1 := usedD_take D.files k hlt
      have e2 := usedD_take_le D.files (k + 1)
      subst hfa
      have hb : usedD (D.files.take k) + D.files[k].bytes.length ≤ 1000000000000 := by omega
      have HE : Hid _ := e1
      clear e1 e2
      go_wp2_with fail
      go_roundw
      case rel => exact ⟨k + 1, by omega, by go_num, by rw [HE.out]; go_num, by trivial⟩
      case measure => simp [intOf]; omega
    · obtain rfl : k = D.files.length := by omega
      go_wp2_with fail
      go_ret
      exact ⟨by rw [List.take_length]; rfl, rfl⟩

/-- A letter that a name may have. -/
def chB (c : Nat) : Bool := (decide (97 ≤ c) && decide (c ≤ 122)) || (decide (48 ≤ c) && decide (c ≤ 57)) || c == 46
def isNm (n : ByteArray) : Bool := decide (1 ≤ n.size) && decide (n.size ≤ 24) && n.data.toList.all (fun c => chB c.toNat)

theorem chB_iff (c : Nat) : chB c = true ↔ (97 ≤ c ∧ c ≤ 122) ∨ (48 ≤ c ∧ c ≤ 57) ∨ c = 46 := by
  unfold chB
  simp only [Bool.or_eq_true, Bool.and_eq_true, decide_eq_true_eq, beq_iff_eq, or_assoc]

theorem all_take {α : Type} (l : List α) (f : α → Bool) (k : Nat) (hk : k < l.length) : (l.take (k + 1)).all f = ((l.take k).all f && f l[k]) := by
  rw [List.take_add_one, List.getElem?_eq_getElem hk, List.all_append]
  simp

set_option maxHeartbeats 1000000 in
theorem dkName_any (n : ByteArray) (w : World) : Calls Tryz.prog 64 #[.string n] w fun e w' => e = .returned (.bool (isNm n)) ∧ w' = w := by
  by_cases h1 : 1 ≤ n.size
  · by_cases h2 : n.size ≤ 24
    · have d1 : decide ((n.size : Int) < 1) = false := by simp; omega
      have d2 : decide ((n.size : Int) > 24) = false := by simp; omega
      have hz : n.data.toList.length = n.size := by rw [Array.length_toList]; rfl
      have HN : Hid (isNm n = n.data.toList.all (fun c => chB c.toNat)) := by show _ = _; unfold isNm; rw [decide_eq_true h1, decide_eq_true h2]; rfl
      go_enter Tryz.func64, Tryz.ntmps64
      go_wp2_with fail
      go_loopw [15] (fun vi wr => ∃ k : Nat, k ≤ n.size ∧ vi = .int .i64 k ∧ Hid ((n.data.toList.take k).all (fun c => chB c.toNat) = true) ∧ wr = w) (fun vi _ => n.size - (intOf vi).toNat)
      case atStart => exact ⟨0, Nat.zero_le _, rfl, by show _ = _; simp, rfl⟩
      case round =>
        obtain ⟨k, hk, rfl, HA, rfl⟩ := hrel
        by_cases hlt : k < n.size
        · have e1 := all_take n.data.toList (fun c => chB c.toNat) k (by omega)
          rw [HA.out, Bool.true_and] at e1
          have HE : Hid _ := e1
          clear e1
          have hnk : n.data.toList[k] = n[k] := by rw [Array.getElem_toList]; rfl
          rw [hnk] at HE
          have hch := chB_iff n[k].toNat
          have HNO : Hid (chB n[k].toNat = false → isNm n = false) := fun e => by
            rw [HN.out, List.all_eq_false]
            refine ⟨n[k], by rw [← hnk]; exact List.getElem_mem _, by rw [e]; simp⟩
          have HCH : Hid _ := hch
          clear hch hnk
          go_wp2_with fail
          all_goals (try simp only [bne_iff_ne, bne_eq_false_iff_eq, ne_eq] at *)
          all_goals (first | (refine ⟨⟨k + 1, by omega, by go_num, ?_, by trivial⟩, by simp [intOf]; omega⟩; (show _ = _); rw [HE.out]; (refine HCH.out.2 ?_); omega) | (rw [HNO.out (by rw [Bool.eq_false_iff]; intro e; have e := HCH.out.1 e; omega)]; go_ret; exact ⟨rfl, rfl⟩))
        · obtain rfl : k = n.size := by omega
          have HF : Hid (isNm n = true) := by
            show _ = _
            rw [HN.out]
            have := HA.out
            rw [List.take_of_length_le (by omega)] at this
            exact this
          go_wp2_with fail
          go_ret
          exact ⟨by rw [HF.out]; rfl, rfl⟩
    · have d1 : decide ((n.size : Int) < 1) = false := by simp; omega
      have d2 : decide ((n.size : Int) > 24) = true := by simp; omega
      have HF : Hid (isNm n = false) := by show _ = _; unfold isNm; simp [h2]
      go_enter Tryz.func64, Tryz.ntmps64
      go_wp2_with fail
      go_ret
      exact ⟨by rw [HF.out]; rfl, rfl⟩
  · have d1 : decide ((n.size : Int) < 1) = true := by simp; omega
    have HF : Hid (isNm n = false) := by show _ = _; unfold isNm; simp [h1]
    go_enter Tryz.func64, Tryz.ntmps64
    go_wp2_with fail
    go_ret
    exact ⟨by rw [HF.out]; rfl, rfl⟩
end Go.Proofs.YtbdokdhconhifaaGreatDoor
