/- The document's names: lagoonref02.Name answers for every text. -/
import Derived.Test.YtdbphdllibffnaaGreatRdAJ
namespace Go.Proofs.YtdbphdllibffnaaGreat
open Go.RowKit Go.Shelf
set_option maxRecDepth 8000

set_option linter.unusedSimpArgs false in
set_option maxHeartbeats 1000000 in
theorem refName_any (n : ByteArray) (hs : n.size ≤ 140737488355328) (w : World) : Calls Tryz.prog 63 #[.string n] w fun e w' => e = .returned (.bool (isNm n)) ∧ w' = w := by
  have hz : n.data.toList.length = n.size := by rw [Array.length_toList]; rfl
  go_enter Tryz.func63, Tryz.ntmps63
  go_wp2_with fail
  go_loopw [3] (fun vi wr => ∃ k : Nat, k ≤ n.size ∧ vi = .int .i64 k ∧ Hid ((n.data.toList.take k).all (fun c => chB c.toNat) = true) ∧ wr = w) (fun vi _ => n.size - (intOf vi).toNat)
  case atStart => exact ⟨0, Nat.zero_le _, rfl, by show _ = _; simp, rfl⟩
  case round =>
    obtain ⟨k, hk, rfl, HA, rfl⟩ := hrel
    by_cases hlt : k < n.size
    · have e1 := all_take n.data.toList (fun c => chB c.toNat) k (by omega)
      rw [HA.out, Bool.true_and] at e1
      have HE : Hid _ := e1
      clear e1
      have hnk : n.data.toList[k] = n[k] := by rw [Array.getElem_toList]; rfl
      rw [hnk] at HE
      have hch := chB_iff n[k].toNat
      have HNO : Hid (chB n[k].toNat = false → isNm n = false) := fun e => by
        unfold isNm
        have : n.data.toList.all (fun c => chB c.toNat) = false := by
          rw [List.all_eq_false]
          exact ⟨n[k], by rw [← hnk]; exact List.getElem_mem _, by rw [e]; simp⟩
        rw [this, Bool.and_false]
      have HCH : Hid _ := hch
      clear hch hnk
      go_wp2_with fail
      all_goals (try simp only [bne_iff_ne, bne_eq_false_iff_eq, ne_eq, Bool.not_eq_false', Bool.not_eq_true', Bool.not_eq_true, Bool.not_eq_false, decide_eq_true_eq, decide_eq_false_iff_not] at *)
      all_goals (first | (refine ⟨⟨k + 1, by omega, by go_num, ?_, by trivial⟩, by simp [intOf]; omega⟩; (show _ = _); rw [HE.out]; (refine HCH.out.2 ?_); omega) | (rw [HNO.out (by rw [Bool.eq_false_iff]; intro e; have e := HCH.out.1 e; omega)]; go_ret; exact ⟨rfl, rfl⟩))
    · obtain rfl : k = n.size := by omega
      have HF : Hid (isNm n = (decide (1 ≤ n.size) && decide (n.size ≤ 24))) := by
        show _ = _
        unfold isNm
        have := HA.out
        rw [List.take_of_length_le (by omega)] at this
        rw [this, Bool.and_true]
      by_cases h1 : 1 ≤ n.size
      · have d1 : decide ((n.size : Int) ≥ 1) = true := by simp; omega
        by_cases h2 : n.size ≤ 24
        · have d2 : decide ((n.size : Int) ≤ 24) = true := by simp; omega
          rw [decide_eq_true h1, decide_eq_true h2] at HF
          go_wp2_with fail
          go_ret
          exact ⟨by rw [HF.out]; rfl, rfl⟩
        · have d2 : decide ((n.size : Int) ≤ 24) = false := by simp; omega
          rw [decide_eq_true h1, decide_eq_false h2] at HF
          go_wp2_with fail
          go_ret
          exact ⟨by rw [HF.out]; rfl, rfl⟩
      · have d1 : decide ((n.size : Int) ≥ 1) = false := by simp; omega
        rw [decide_eq_false h1] at HF
        go_wp2_with fail
        go_ret
        exact ⟨by rw [HF.out]; rfl, rfl⟩
end Go.Proofs.YtdbphdllibffnaaGreat

/- The document's disk: At, Sum, write, Off, Arm. -/
namespace Go.Proofs.YtdbphdllibffnaaGreat
open Go.RowKit Go.Shelf
set_option maxRecDepth 8000

theorem toList_inj {a b : ByteArray} (h : a.toList = b.toList) : a = b := by
  rw [ByteArray.toList_eq, ByteArray.toList_eq] at h
  exact ByteArray.ext (Array.toList_inj.1 h)

set_option maxHeartbeats 1000000 in
theorem refAt_any {w : World} {p : Nat} {fv : Value} {vs : List Value} {R : RD} (h : IsRd w p fv vs R) (hr : Rise R.files) (hfew : R.files.length ≤ 64) (n : ByteArray) :
    Calls Tryz.prog 51 #[.pointer (some ⟨p, 0, none⟩), .string n] w fun e w' => e = .returned (.int .i64 (atI R.files n)) ∧ w' = w := by
  have c1 := h.cells.2.1
  have hl := lt_of_block h.row
  have HH : Hid _ := h
  have HR : Hid _ := hr
  obtain ⟨N, hN⟩ : ∃ N, N = R.files.length := ⟨_, rfl⟩
  obtain ⟨fa, fc, hfv, hfc, hfm⟩ : ∃ fa fc, fv = .slice fa N fc ∧ N ≤ fc ∧ fc ≤ 9223372036854775807 := by
    rw [hN]
    obtain ⟨_, ⟨e, e0⟩ | ⟨g, cap, cur, e, _, _, h4, h5, _⟩⟩ := h.img.own
    · exact ⟨none, 0, by rw [e, e0], by rw [e0]; omega, by omega⟩
    · unfold maxLen at h5
      exact ⟨_, _, e, h4, by omega⟩
  rw [hfv] at c1
  have HFV : Hid _ := hfv
  rw [← hN] at hfew
  have HN : Hid _ := hN
  clear h hr hN hfv
  go_enter Tryz.func51, Tryz.ntmps51
  go_wp2_with fail
  go_loopw [5] (fun vi wr => ∃ k : Nat, k ≤ N ∧ vi = .int .i64 k ∧ Hid (∀ j (hj : j < R.files.length), j < k → R.files[j].name ≠ n) ∧ wr = w) (fun vi _ => N - (intOf vi).toNat)
  case atStart => exact ⟨0, Nat.zero_le _, rfl, fun j hj e => by omega, rfl⟩
  case round =>
    obtain ⟨k, hk, rfl, HA, rfl⟩ := hrel
    by_cases hlt : k < N
    · have hlt1 : k < R.files.length := by rw [← HN.out]; exact hlt
      obtain ⟨g, c, u, e0, _, _, _, a0, _, _, _⟩ := HH.out.file k hlt1
      rw [HFV.out] at e0
      obtain ⟨rfl, _, rfl⟩ := Value.slice.inj e0
      by_cases hn : R.files[k].name = n
      · have hb : (R.files[k].name.toList == n.toList) = true := by rw [hn]; simp
        have HF : Hid (atI R.files n = (k : Int)) := by
          show _ = _
          unfold atI
          rw [(hasF_mem HR.out n).2 ⟨_, List.getElem_mem hlt1, hn⟩, if_pos rfl, at_pl HR.out hlt1 hn]
        generalize R.files[k].name = nm at *
        clear e0
        go_wp2_with fail
        go_ret
        exact ⟨by rw [HF.out]; rfl, rfl⟩
      · have hb : (R.files[k].name.toList == n.toList) = false := by
          rw [beq_eq_false_iff_ne]
          exact fun e => hn (toList_inj e)
        have hb2 : ¬ R.files[k].name.toList = n.toList := fun e => hn (toList_inj e)
        have HA2 : Hid (∀ j (hj : j < R.files.length), j < k + 1 → R.files[j].name ≠ n) := fun j hj e => by
          by_cases hjk : j = k
          · subst hjk; exact hn
          · exact HA.out j hj (by omega)
        generalize R.files[k].name = nm at *
        clear e0
        go_wp2_with fail
        go_roundw
        case rel => exact ⟨k + 1, by omega, by go_num, HA2, by trivial⟩
        case measure => simp [intOf]; omega
    · obtain rfl : k = N := by omega
      have HF : Hid (atI R.files n = -1) := by
        show _ = _
        unfold atI
        have : hasF R.files n = false := by
          rw [Bool.eq_false_iff]
          intro e
          obtain ⟨f, hf, e'⟩ := (hasF_mem HR.out n).1 e
          obtain ⟨j, hj, rfl⟩ := List.getElem_of_mem hf
          exact HA.out j hj (by rw [HN.out]; exact hj) e'
        rw [this]
        rfl
      go_wp2_with fail
      go_ret
      exact ⟨by rw [HF.out]; rfl, rfl⟩

/-- A call that turned the numbers of the disk's own row alone. -/
theorem IsRd.fields {w w' : World} {p : Nat} {fv : Value} {vs : List Value} {R R' : RD} (h : IsRd w p fv vs R) (hk : Kept w w' (· = p)) (hrow : w'.heap[p]? = some (.cells (rdQ fv R') 42 (0, 0))) (hf : R'.files = R.files) : RdTo w p fv vs w' R' fv vs := by
  have hnp := (List.nodup_cons.1 h.nd).1
  refine ⟨⟨hrow, ?_, h.nd⟩, hk.mono (fun k _ e => by rw [e]; exact mem_rfoot_p), fun k hk => .inl hk⟩
  rw [hf]
  exact h.img.keptF hk (fun k e e' => hnp (by rw [← e']; exact (List.mem_cons.1 (mem_rfoot_fv (p := p) (vs := vs) e)).resolve_left (fun e'' => hnp (List.mem_append.2 (.inl (by rw [e, e'']; simp)))))) (fun u hu k e e' => hnp (by rw [← e']; exact List.mem_append.2 (.inr (List.mem_flatMap.2 ⟨u, hu, by rw [e]; simp⟩))))

theorem refOff_any {w : World} {p : Nat} {fv : Value} {vs : List Value} {R : RD} (h : IsRd w p fv vs R) : Calls Tryz.prog 32 #[.pointer (some ⟨p, 0, none⟩)] w fun e w' => e = .returned (.tuple #[]) ∧ RdTo w p fv vs w' R.off fv vs := by
  obtain ⟨c0, c1, c2, c3, c4, c5⟩ := h.cells
  have hl := lt_of_block h.row
  have f2 : w.frozen? ⟨p, 2, none⟩ = false := frozen_of_row w p 2 _ _ h.row
  have f3 : w.frozen? ⟨p, 3, none⟩ = false := frozen_of_row w p 3 _ _ h.row
  have HR : Hid (RdTo w p fv vs ((w.setCell ⟨p, 2, none⟩ (.bool false)).setCell ⟨p, 3, none⟩ (.bool false)) R.off fv vs) := h.fields (Kept.setCell (Kept.setCell (Kept.refl _ (fun k => k = p)) ⟨p, 2, none⟩ _ (fun _ => rfl)) ⟨p, 3, none⟩ _ (fun _ => rfl)) (heap_setK _ (heap_setK _ h.row)) rfl
  clear h
  go_enter Tryz.func32, Tryz.ntmps32
  go_wp2_with fail
  go_end0
  exact ⟨rfl, HR.out⟩
end Go.Proofs.YtdbphdllibffnaaGreat

/- The document's disk: Arm, write, Sum. -/
namespace Go.Proofs.YtdbphdllibffnaaGreat
open Go.RowKit Go.Shelf
set_option maxRecDepth 8000

theorem refArm_any {w : World} {p : Nat} {fv : Value} {vs : List Value} {R : RD} (h : IsRd w p fv vs R) (n : Int) : Calls Tryz.prog 30 #[.pointer (some ⟨p, 0, none⟩), .int .i64 n] w fun e w' => e = .returned (.tuple #[]) ∧ RdTo w p fv vs w' (R.arm n) fv vs := by
  obtain ⟨c0, c1, c2, c3, c4, c5⟩ := h.cells
  have hl := lt_of_block h.row
  have f3 : w.frozen? ⟨p, 3, none⟩ = false := frozen_of_row w p 3 _ _ h.row
  have f4 : w.frozen? ⟨p, 4, none⟩ = false := frozen_of_row w p 4 _ _ h.row
  cases hp : R.power
  · have HR : Hid (RdTo w p fv vs w (R.arm n) fv vs) := by
      unfold RD.arm
      rw [hp]
      exact RdTo.refl h
    rw [hp] at c2
    clear h hp
    go_enter Tryz.func30, Tryz.ntmps30
    go_wp2_with fail
    go_end0
    exact ⟨rfl, HR.out⟩
  · obtain ⟨b, hb⟩ : ∃ b, b = decide (0 ≤ n) := ⟨_, rfl⟩
    have hb' : decide (n ≥ 0) = b := hb.symm
    have HR : Hid (RdTo w p fv vs ((w.setCell ⟨p, 3, none⟩ (.bool b)).setCell ⟨p, 4, none⟩ (.int .i64 n)) (R.arm n) fv vs) := by
      have e : R.arm n = { R with armed := b, more := n } := by
        unfold RD.arm
        rw [if_pos hp, hb]
      rw [e]
      exact h.fields (Kept.setCell (Kept.setCell (Kept.refl _ (fun k => k = p)) ⟨p, 3, none⟩ _ (fun _ => rfl)) ⟨p, 4, none⟩ _ (fun _ => rfl)) (heap_setK _ (heap_setK _ h.row)) rfl
    rw [hp] at c2
    clear h hp hb
    go_enter Tryz.func30, Tryz.ntmps30
    go_wp2_with fail
    go_end0
    exact ⟨rfl, HR.out⟩

theorem refWrite_any {w : World} {p : Nat} {fv : Value} {vs : List Value} {R : RD} (h : IsRd w p fv vs R) (hm : R.armed = true → 0 ≤ R.more) (hm' : R.more ≤ 9223372036854775807) (hd : 0 ≤ R.done) (hd' : R.done ≤ 4611686018427387904) : Calls Tryz.prog 65 #[.pointer (some ⟨p, 0, none⟩)] w fun e w' => e = .returned (.bool R.write.1) ∧ RdTo w p fv vs w' R.write.2 fv vs := by
  obtain ⟨c0, c1, c2, c3, c4, c5⟩ := h.cells
  have hl := lt_of_block h.row
  have f2 : w.frozen? ⟨p, 2, none⟩ = false := frozen_of_row w p 2 _ _ h.row
  have f3 : w.frozen? ⟨p, 3, none⟩ = false := frozen_of_row w p 3 _ _ h.row
  have f4 : w.frozen? ⟨p, 4, none⟩ = false := frozen_of_row w p 4 _ _ h.row
  have f5 : w.frozen? ⟨p, 5, none⟩ = false := frozen_of_row w p 5 _ _ h.row
  cases ha : R.armed
  · have e : R.write = (true, { R with done := R.done + 1 }) := by unfold RD.write; rw [if_neg (by rw [ha]; simp)]
    rw [e]
    have HR : Hid (RdTo w p fv vs (w.setCell ⟨p, 5, none⟩ (.int .i64 (R.done + 1))) { R with done := R.done + 1 } fv vs) := h.fields (Kept.setCell (Kept.refl _ (fun k => k = p)) ⟨p, 5, none⟩ _ (fun _ => rfl)) (heap_setK _ h.row) rfl
    rw [ha] at c3
    clear h e ha hm
    go_enter Tryz.func65, Tryz.ntmps65
    go_wp2_with fail
    go_ret
    exact ⟨rfl, HR.out⟩
  · have h0 := hm ha
    by_cases hz : R.more = 0
    · have e : R.write = (false, R.off) := by unfold RD.write; rw [if_pos ha, if_pos hz]
      rw [e]
      have hzb : (R.more == 0) = true := by simpa using hz
      have HR : Hid (RdTo w p fv vs ((w.setCell ⟨p, 3, none⟩ (.bool false)).setCell ⟨p, 2, none⟩ (.bool false)) R.off fv vs) := h.fields (Kept.setCell (Kept.setCell (Kept.refl _ (fun k => k = p)) ⟨p, 3, none⟩ _ (fun _ => rfl)) ⟨p, 2, none⟩ _ (fun _ => rfl)) (heap_setK _ (heap_setK _ h.row)) rfl
      rw [ha] at c3
      rw [hz] at c4
      clear h e ha hm hz hzb
      go_enter Tryz.func65, Tryz.ntmps65
      go_wp2_with fail
      go_ret
      exact ⟨rfl, HR.out⟩
    · have e : R.write = (true, { R with more := R.more - 1, done := R.done + 1 }) := by unfold RD.write; rw [if_pos ha, if_neg hz]
      rw [e]
      have hzb : (R.more == 0) = false := by simpa using hz
      have HR : Hid (RdTo w p fv vs ((w.setCell ⟨p, 4, none⟩ (.int .i64 (R.more - 1))).setCell ⟨p, 5, none⟩ (.int .i64 (R.done + 1))) { R with more := R.more - 1, done := R.done + 1 } fv vs) := h.fields (Kept.setCell (Kept.setCell (Kept.refl _ (fun k => k = p)) ⟨p, 4, none⟩ _ (fun _ => rfl)) ⟨p, 5, none⟩ _ (fun _ => rfl)) (heap_setK _ (heap_setK _ h.row)) rfl
      rw [ha] at c3
      clear h e ha hm hz
      go_enter Tryz.func65, Tryz.ntmps65
      go_wp2_with fail
      go_ret
      exact ⟨rfl, HR.out⟩

set_option maxHeartbeats 400000 in
theorem refSum_any {w : World} {B : Nat} {v : Value} {fs : List FiD} {vs : List Value} (h : ImgAt w B v fs vs) (hfew : fs.length ≤ 64) (hu : usedD fs ≤ 1000000000000) :
    Calls Tryz.prog 64 #[v] w fun e w' => e = .returned (.int .i64 (usedD fs)) ∧ w' = w := by
  have HH : Hid _ := h
  obtain ⟨N, hN⟩ : ∃ N, N = fs.length := ⟨_, rfl⟩
  obtain ⟨fa, fc, rfl, hfc, hfm⟩ : ∃ fa fc, v = .slice fa N fc ∧ N ≤ fc ∧ fc ≤ 9223372036854775807 := by
    rw [hN]
    obtain ⟨_, ⟨e, e0⟩ | ⟨g, cap, cur, e, _, _, h4, h5, _⟩⟩ := h.own
    · exact ⟨none, 0, by rw [e, e0], by rw [e0]; omega, by omega⟩
    · unfold maxLen at h5
      exact ⟨_, _, e, h4, by omega⟩
  rw [← hN] at hfew
  have HN : Hid _ := hN
  have HU : Hid _ := hu
  clear h hN hu
  go_enter Tryz.func64, Tryz.ntmps64
  go_wp2_with fail
  go_loopw [3, 4] (fun vc vi wr => ∃ k : Nat, k ≤ N ∧ vi = .int .i64 k ∧ vc = .int .i64 (usedD (fs.take k)) ∧ wr = w) (fun _ vi _ => N - (intOf vi).toNat)
  case atStart => exact ⟨0, Nat.zero_le _, rfl, by simp [usedD], rfl⟩
  case round =>
    obtain ⟨k, hk, rfl, rfl, rfl⟩ := hrel
    by_cases hlt : k < N
    · have hlt1 : k < fs.length := by rw [← HN.out]; exact hlt
      obtain ⟨_, ⟨_, e0⟩ | ⟨g, cap, cur, e, _⟩⟩ := HH.out.own
      · rw [e0] at hlt1; simp at hlt1
      obtain ⟨rfl, _, rfl⟩ := Value.slice.inj e
      have himg := HH.out
      obtain ⟨u, _, _, a1, _, ho⟩ := himg.cells k hlt1
      obtain ⟨x, y, hu2, _, _⟩ := own_shape (owns_mono ho (Nat.zero_le _))
      rw [hu2] at a1
      have hut := used_take fs k hlt1
      have hsm : usedD (fs.take k) + fs[k].bytes.length ≤ 1000000000000 := by
        have h1 : usedD (fs.take (k + 1)) + usedD (fs.drop (k + 1)) = usedD fs := by rw [← usedD_append, List.take_append_drop]
        have := HU.out
        omega
      have HUT : Hid _ := hut
      generalize fs[k].bytes.length = L at *
      generalize usedD (fs.take k) = S at *
      clear himg ho hu2 hut e
      go_wp2_with fail
      go_roundw
      case rel => exact ⟨k + 1, by omega, by go_num, by rw [HUT.out]; go_num, by trivial⟩
      case measure => simp [intOf]; omega
    · obtain rfl : k = N := by omega
      have e : fs.take k = fs := List.take_of_length_le (by have := HN.out; omega)
      rw [e]
      go_wp2_with fail
      go_ret
      exact ⟨rfl, rfl⟩
end Go.Proofs.YtdbphdllibffnaaGreat

/- The document's disk: found. -/
namespace Go.Proofs.YtdbphdllibffnaaGreat
open Go.RowKit Go.Shelf
set_option maxRecDepth 8000

/-- Why a call that names a file is refused. -/
def RD.errO (R : RD) (n : ByteArray) : Int := if R.power then (if isNm n then (if hasF R.files n then 0 else 20) else 22) else 23

set_option maxHeartbeats 400000 in
theorem refFound_any {w : World} {p : Nat} {fv : Value} {vs : List Value} {R : RD} (h : IsRd w p fv vs R) (hr : Rise R.files) (hfew : R.files.length ≤ 64) (n : ByteArray) (hn : n.size ≤ 140737488355328) :
    Calls Tryz.prog 68 #[.pointer (some ⟨p, 0, none⟩), .string n] w fun e w' => e = .returned (.tuple #[.int .i64 (if R.errO n = 0 then (pl R.files n : Int) else 0), .int .i64 (R.errO n)]) ∧ w' = w := by
  obtain ⟨c0, c1, c2, c3, c4, c5⟩ := h.cells
  have hl := lt_of_block h.row
  have hA := refAt_any h hr hfew n
  have hN := refName_any n hn w
  cases hp : R.power
  · have e : R.errO n = 23 := by unfold RD.errO; rw [hp]; rfl
    rw [e, if_neg (by decide)]
    rw [hp] at c2
    clear h hA hN hp e
    go_enter Tryz.func68, Tryz.ntmps68
    go_wp2_with fail
    go_ret2
    exact ⟨rfl, rfl⟩
  · rw [hp] at c2
    cases hm : isNm n
    · have e : R.errO n = 22 := by unfold RD.errO; rw [if_pos hp, hm]; rfl
      rw [e, if_neg (by decide)]
      rw [hm] at hN
      have HN : Hid _ := hN
      clear h hA hN hp e hm
      go_enter Tryz.func68, Tryz.ntmps68
      go_wp2_with fail
      refine Calls.mono HN.out ?_
      rintro e w1 ⟨rfl, hw1⟩
      subst w1
      go_wp2_with fail
      go_ret2
      exact ⟨rfl, rfl⟩
    · rw [hm] at hN
      have HN : Hid _ := hN
      cases hh : hasF R.files n
      · have e : R.errO n = 20 := by unfold RD.errO; rw [if_pos hp, if_pos hm, hh]; rfl
        have ea : atI R.files n = -1 := by unfold atI; rw [hh]; rfl
        rw [e, if_neg (by decide)]
        rw [ea] at hA
        have HA : Hid _ := hA
        clear h hA hN hp e hm ea hh
        go_enter Tryz.func68, Tryz.ntmps68
        go_wp2_with fail
        refine Calls.mono HN.out ?_
        rintro e w1 ⟨rfl, hw1⟩
        subst w1
        go_wp2_with fail
        refine Calls.mono HA.out ?_
        rintro e w1 ⟨rfl, hw1⟩
        subst w1
        go_wp2_with fail
        go_ret2
        exact ⟨rfl, rfl⟩
      · have e : R.errO n = 0 := by unfold RD.errO; rw [if_pos hp, if_pos hm, if_pos hh]
        have ea : atI R.files n = (pl R.files n : Int) := by unfold atI; rw [hh]; rfl
        rw [e, if_pos rfl]
        rw [ea] at hA
        have HA : Hid _ := hA
        have hlt : decide ((pl R.files n : Int) < 0) = false := decide_eq_false (by omega)
        generalize pl R.files n = P at *
        clear h hA hN hp e hm ea hh
        go_enter Tryz.func68, Tryz.ntmps68
        go_wp2_with fail
        refine Calls.mono HN.out ?_
        rintro e w1 ⟨rfl, hw1⟩
        subst w1
        go_wp2_with fail
        refine Calls.mono HA.out ?_
        rintro e w1 ⟨rfl, hw1⟩
        subst w1
        go_wp2_with fail
        go_ret2
        exact ⟨rfl, rfl⟩
end Go.Proofs.YtdbphdllibffnaaGreat

/- One cell of a file in a list of files is set. -/
namespace Go.Proofs.YtdbphdllibffnaaGreat
open Go.RowKit Go.Shelf
set_option maxRecDepth 8000

theorem imgC_get (fs : List FiD) (vs : List Value) (h : vs.length = fs.length) (m : Nat) : (imgC fs vs)[m]? = (fs[m / 3]?).bind fun f => (vs[m / 3]?).bind fun u => (fiC f u)[m % 3]? := by
  by_cases hm : m / 3 < fs.length
  · have e : m = m / 3 * 3 + m % 3 := by omega
    have h2 : m / 3 < vs.length := by rw [h]; exact hm
    rw [List.getElem?_eq_getElem hm, List.getElem?_eq_getElem h2]
    simp only [Option.bind_some]
    rw [← imgC_at fs vs h (m / 3) hm (m % 3) (by omega), ← e]
  · rw [List.getElem?_eq_none (by rw [imgC_len fs vs h]; omega), List.getElem?_eq_none (l := fs) (by omega)]
    rfl

/-- The durable length of a file is set. -/
theorem ImgAt.setDur {w : World} {B g n c : Nat} {fs : List FiD} {vs : List Value} (h : ImgAt w B (.slice (some ⟨g, 0, none⟩) n c) fs vs) (i : Nat) (hi : i < fs.length) (d : Int) (hne : ∀ u ∈ vs, ∀ k, u.ownBlock = some k → k ≠ g) : ImgAt (w.setCell ⟨g, i * 3 + 2, none⟩ (.int .i64 d)) B (.slice (some ⟨g, 0, none⟩) n c) (fs.set i ⟨fs[i].name, fs[i].bytes, d⟩) vs := by
  have hk : Kept w (w.setCell ⟨g, i * 3 + 2, none⟩ (.int .i64 d)) (fun k => k = g) := Kept.setCell (Kept.refl _ (fun k => k = g)) ⟨g, i * 3 + 2, none⟩ _ (fun _ => rfl)
  have hl : (fs.set i ⟨fs[i].name, fs[i].bytes, d⟩).length = fs.length := by simp
  refine ⟨by rw [hl]; exact h.len, ?_, fun j u f hu hf => ?_⟩
  · obtain ⟨h0, ⟨e, _⟩ | ⟨g', cap, cur, e, h2, h3, h4, h5, h6, h7⟩⟩ := h.own
    · cases e
    obtain ⟨rfl, _, rfl⟩ : g = g' ∧ n = fs.length ∧ c = cap := by simpa using e
    rw [hl]
    refine ⟨by rw [imgC_len _ _ (by rw [hl]; exact h.len), hl], .inr ⟨g, c, cur.setIfInBounds (i * 3 + 2) (.int .i64 d), e, h2, heap_setK _ h3, h4, h5, by simpa using h6, ?_⟩⟩
    rw [Array.toList_setIfInBounds]
    apply List.ext_getElem?
    intro m
    have h7' := congrArg (fun l => l[m]?) h7
    simp only [List.getElem?_take] at h7' ⊢
    rw [List.getElem?_set, imgC_get _ _ (by rw [hl]; exact h.len)]
    rw [imgC_get _ _ h.len] at h7'
    by_cases hm : m < fs.length * 3
    · rw [if_pos hm] at h7' ⊢
      by_cases hmi : m / 3 = i
      · have hv : i < vs.length := by rw [h.len]; exact hi
        rw [hmi, List.getElem?_eq_getElem hi, List.getElem?_eq_getElem hv] at h7'
        rw [hmi, List.getElem?_set, if_pos rfl, if_pos hi, List.getElem?_eq_getElem hv]
        simp only [Option.bind_some] at h7' ⊢
        by_cases h2' : m % 3 = 2
        · have em : i * 3 + 2 = m := by omega
          rw [if_pos em, if_pos (by rw [em]; simp; omega), h2']
          rfl
        · have em : ¬ i * 3 + 2 = m := by omega
          rw [if_neg em, h7']
          match hq : m % 3, h2' with
          | 0, _ => rfl
          | 1, _ => rfl
          | 2, hx => exact absurd rfl hx
          | q + 3, _ => omega
      · rw [if_neg (by omega), h7', List.getElem?_set, if_neg (by omega)]
    · rw [if_neg hm, List.getElem?_eq_none (by rw [hl]; omega)]
      rfl
  · by_cases hj : j = i
    · subst hj
      rw [List.getElem?_set, if_pos rfl, if_pos hi] at hf
      cases hf
      exact (h.bys j u _ hu (List.getElem?_eq_getElem hi)).kept hk (fun k e => hne u (List.mem_of_getElem? hu) k e)
    · rw [List.getElem?_set, if_neg (by omega)] at hf
      exact (h.bys j u _ hu hf).kept hk (fun k e => hne u (List.mem_of_getElem? hu) k e)
end Go.Proofs.YtdbphdllibffnaaGreat
