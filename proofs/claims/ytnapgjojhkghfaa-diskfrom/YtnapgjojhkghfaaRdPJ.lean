/- For DiskBounds: a call that is refused changes nothing; the document's names. -/
import Derived.Test.YtnapgjojhkghfaaDkYJ
import Derived.Laws.Cover1
namespace Go.Proofs.Ytnapgjojhkghfaa
open Go.RowKit Go.Shelf
set_option maxRecDepth 8000

theorem act_no {D : DkD} {e : Int} {fs : List FiD} (h : (D.act e fs).1 ≠ 0) : (D.act e fs).2.files = D.files ∧ (D.act e fs).2.writes = D.writes := by
  unfold DkD.act at h ⊢
  split
  · rename_i he
    split
    · exact ⟨off_files D, off_writes D⟩
    · rename_i ha
      rw [if_pos he, if_neg ha] at h
      exact absurd rfl h
  · exact ⟨rfl, rfl⟩

theorem actK_no {D : DkD} {o : OpK} (h : (actK D o).1 ≠ 0) : (actK D o).2.files = D.files ∧ (actK D o).2.writes = D.writes := by
  unfold actK at h ⊢
  split
  · rename_i h1; rw [if_pos h1] at h; exact act_no h
  · rename_i h1
    rw [if_neg h1] at h
    split
    · rename_i h2; rw [if_pos h2] at h; exact act_no h
    · rename_i h2
      rw [if_neg h2] at h
      split
      · rename_i h3; rw [if_pos h3] at h; exact act_no h
      · rename_i h3
        rw [if_neg h3] at h
        split
        · rename_i h4; rw [if_pos h4] at h; exact act_no h
        · rename_i h4
          rw [if_neg h4] at h
          split
          · rename_i h5; rw [if_pos h5] at h; exact act_no h
          · exact ⟨rfl, rfl⟩

theorem less_of_cmp : ∀ (a b : List UInt8), Lib.compareBytes a b < 0 → Op.bytesLess a b = true
  | [], [], h => by simp [Lib.compareBytes] at h
  | [], _ :: _, _ => rfl
  | _ :: _, [], h => by simp [Lib.compareBytes] at h
  | a :: x, b :: y, h => by
    unfold Lib.compareBytes at h
    unfold Op.bytesLess
    by_cases h1 : a < b
    · simp [h1]
    · rw [if_neg h1] at h
      by_cases h2 : b < a
      · rw [if_pos h2] at h; simp at h
      · rw [if_neg h2] at h
        have e : a = b := by
          have h1' : ¬ a.toNat < b.toNat := h1
          have h2' : ¬ b.toNat < a.toNat := h2
          exact UInt8.toNat_inj.1 (by omega)
        simp [e, less_of_cmp x y h]

theorem less_name {a b : ByteArray} (h : ncmp a b < 0) : Op.bytesLess a.toList b.toList = true := by
  rw [ByteArray.toList_eq, ByteArray.toList_eq]
  exact less_of_cmp _ _ h

theorem rise_at {fs : List FiD} (hr : Rise fs) (i : Nat) (hi : i + 1 < fs.length) : ncmp fs[i].name fs[i + 1].name < 0 :=
  List.pairwise_iff_getElem.1 hr i (i + 1) (by omega) hi (by omega)

theorem used_take (fs : List FiD) (i : Nat) (hi : i < fs.length) : usedD (fs.take (i + 1)) = usedD (fs.take i) + fs[i].bytes.length := by
  rw [List.take_add_one, List.getElem?_eq_getElem hi, usedD_append]
  simp [usedD]

set_option maxHeartbeats 1000000 in
theorem refName_yes (n : ByteArray) (h : isNm n = true) (w : World) : Calls Try.prog 38 #[.string n] w fun e w' => e = .returned (.bool true) ∧ w' = w := by
  unfold isNm at h
  simp only [Bool.and_eq_true, decide_eq_true_eq] at h
  obtain ⟨⟨h1, h2⟩, h3⟩ := h
  have H3 : Hid _ := h3
  clear h3
  have hz : n.data.toList.length = n.size := by rw [Array.length_toList]; rfl
  have d1 : decide ((n.size : Int) ≥ 1) = true := by simp; omega
  have d2 : decide ((n.size : Int) ≤ 24) = true := by simp; omega
  go_enter Try.func38, Try.ntmps38
  go_wp2_with fail
  go_loopw [3] (fun vi wr => ∃ k : Nat, k ≤ n.size ∧ vi = .int .i64 k ∧ wr = w) (fun vi _ => n.size - (intOf vi).toNat)
  case atStart => exact ⟨0, Nat.zero_le _, rfl, rfl⟩
  case round =>
    obtain ⟨k, hk, rfl, rfl⟩ := hrel
    by_cases hlt : k < n.size
    · have hnk : n.data.toList[k] = n[k] := by rw [Array.getElem_toList]; rfl
      have hch : chB n[k].toNat = true := by
        have := List.all_eq_true.1 H3.out n[k] (by rw [← hnk]; exact List.getElem_mem _)
        exact this
      have hc := (chB_iff _).1 hch
      clear hch hnk
      go_wp2_with fail
      all_goals (try simp only [bne_eq_false_iff_eq] at *)
      all_goals (first | exact ⟨⟨k + 1, by omega, by go_num, by trivial⟩, by simp [intOf]; omega⟩ | (exfalso; omega))
    · obtain rfl : k = n.size := by omega
      go_wp2_with fail
      go_ret
      exact ⟨rfl, rfl⟩
end Go.Proofs.Ytnapgjojhkghfaa

/- The document's disk (lagoonref02.Disk) as data, and how it goes beside the program's: data alone; no Go function is walked here. -/
namespace Go.Proofs.Ytnapgjojhkghfaa
open Go.RowKit
set_option maxRecDepth 8000

/-- The document's disk, as data. -/
structure RD where
  files : List FiD
  room : Int
  power : Bool
  armed : Bool
  more : Int
  done : Int

/-- The program's disk and the document's, alike. -/
structure Play (D : DkD) (R : RD) : Prop where
  files : R.files = D.files
  room : R.room = D.room
  on : R.power = D.on
  done : R.done = D.writes
  arm : (R.armed = false ∧ D.armed = -1) ∨ (R.armed = true ∧ D.armed = R.more ∧ 0 ≤ R.more)

def RD.off (R : RD) : RD := { R with power := false, armed := false }
def RD.arm (R : RD) (n : Int) : RD := if R.power then { R with armed := decide (0 ≤ n), more := n } else R
def RD.start (R : RD) (ks : List Int) : RD := if R.power then R else { R with power := true, files := lossF R.files ks }
/-- A write: is it done, and what it leaves. -/
def RD.write (R : RD) : Bool × RD :=
  if R.armed then (if R.more = 0 then (false, R.off) else (true, { R with more := R.more - 1, done := R.done + 1 }))
  else (true, { R with done := R.done + 1 })
/-- A call that writes, refused ahead of its write by e. -/
def RD.act (R : RD) (e : Int) (fs : List FiD) : Int × RD := if e = 0 then (if R.write.1 then (0, { R.write.2 with files := fs }) else (23, R.write.2)) else (e, R)

theorem play_new (room : Int) : Play (newD room) ⟨[], room, true, false, 0, 0⟩ := ⟨rfl, rfl, rfl, rfl, .inl ⟨rfl, rfl⟩⟩

theorem play_off {D : DkD} {R : RD} (h : Play D R) (hD : D.on = false → D.armed = -1) : Play D.off R.off := by
  unfold DkD.off RD.off
  cases hon : D.on
  · exact ⟨h.files, h.room, hon.symm ▸ rfl, h.done, .inl ⟨rfl, hD hon⟩⟩
  · exact ⟨h.files, h.room, rfl, h.done, .inl ⟨rfl, rfl⟩⟩

theorem play_arm {D : DkD} {R : RD} (h : Play D R) (n : Int) : Play (D.arm n) (R.arm n) := by
  unfold DkD.arm RD.arm
  rw [h.on]
  cases hon : D.on
  · exact ⟨h.files, h.room, h.on, h.done, h.arm⟩
  · refine ⟨h.files, h.room, rfl, h.done, ?_⟩
    by_cases hn : 0 ≤ n
    · exact .inr ⟨decide_eq_true hn, by show max n (-1) = n; omega, hn⟩
    · exact .inl ⟨decide_eq_false hn, by show max n (-1) = -1; omega⟩

theorem play_start {D : DkD} {R : RD} (h : Play D R) (ks : List Int) : Play (D.start ks) (R.start ks) := by
  unfold DkD.start RD.start
  rw [h.on]
  cases hon : D.on
  · exact ⟨by show lossF R.files ks = lossF D.files ks; rw [h.files], h.room, rfl, h.done, h.arm⟩
  · exact ⟨h.files, h.room, h.on, h.done, h.arm⟩

/-- A disk that is off is not armed. -/
def Calm (D : DkD) : Prop := D.on = false → D.armed = -1
theorem calm_new (room : Int) : Calm (newD room) := fun h => by cases h
theorem calm_off (D : DkD) (h : Calm D) : Calm D.off := by
  unfold DkD.off
  cases hon : D.on
  · exact fun _ => h hon
  · exact fun _ => rfl
theorem calm_arm (D : DkD) (h : Calm D) (n : Int) : Calm (D.arm n) := by
  unfold DkD.arm
  cases hon : D.on
  · exact fun _ => h hon
  · exact fun e => by cases e
theorem calm_start (D : DkD) (ks : List Int) : Calm (D.start ks) := by
  unfold DkD.start
  cases hon : D.on
  · exact fun e => by cases e
  · exact fun e => by rw [if_pos rfl] at e; rw [hon] at e; cases e

/-- What a call that writes does to both. -/
theorem play_act {D : DkD} {R : RD} (h : Play D R) (hc : Calm D) (e : Int) (fs : List FiD) (he0 : e = 0 → D.on = true) : (R.act e fs).1 = (D.act e fs).1 ∧ Play (D.act e fs).2 (R.act e fs).2 ∧ Calm (D.act e fs).2 := by
  by_cases he : e = 0
  · subst he
    have hon := he0 rfl
    unfold RD.act DkD.act
    rw [if_pos rfl, if_pos rfl]
    unfold RD.write
    rcases h.arm with ⟨ha, hd⟩ | ⟨ha, hd, h0⟩
    · rw [ha, hd]
      refine ⟨rfl, ⟨rfl, h.room, h.on, by show R.done + 1 = D.writes + 1; rw [h.done], .inl ⟨rfl, ?_⟩⟩, fun e => ?_⟩
      · show max (D.armed - 1) (-1) = -1
        rw [hd]; omega
      · have e' : D.on = false := e
        rw [hon] at e'; cases e'
    · rw [ha, hd, if_pos rfl]
      by_cases hm : R.more = 0
      · rw [if_pos hm, if_pos hm]
        exact ⟨rfl, play_off h hc, calm_off D hc⟩
      · rw [if_neg hm, if_neg hm]
        refine ⟨rfl, ⟨rfl, h.room, h.on, by show R.done + 1 = D.writes + 1; rw [h.done], .inr ⟨rfl, ?_, ?_⟩⟩, fun e => ?_⟩
        · show max (D.armed - 1) (-1) = R.more - 1
          rw [hd]; omega
        · show 0 ≤ R.more - 1
          omega
        · have e' : D.on = false := e
          rw [hon] at e'; cases e'
  · rw [act_err he]
    unfold RD.act
    rw [if_neg he]
    exact ⟨rfl, h, hc⟩

/-- The place of a file, as the document's disk finds it. -/
def atI (fs : List FiD) (n : ByteArray) : Int := if hasF fs n then pl fs n else -1

/-- The files but for one. -/
theorem without_eq {fs : List FiD} (hr : Rise fs) (n : ByteArray) : fs.filter (fun f => decide (f.name ≠ n)) = fs.eraseIdx (dropI fs n) := by
  unfold dropI
  cases hh : hasF fs n
  · rw [if_neg (by simp), List.eraseIdx_of_length_le (Nat.le_refl _)]
    refine List.filter_eq_self.2 fun f hf => decide_eq_true fun e => ?_
    have := (hasF_mem hr n).2 ⟨f, hf, e⟩
    rw [hh] at this
    cases this
  · rw [if_pos rfl]
    obtain ⟨h1, h2⟩ := (hasF_iff _ _).1 hh
    have e : fs = fs.take (pl fs n) ++ fs[pl fs n] :: fs.drop (pl fs n + 1) := by rw [← List.drop_eq_getElem_cons h1, List.take_append_drop]
    rw [List.eraseIdx_eq_take_drop_succ]
    conv => lhs; rw [e]
    rw [List.filter_append, List.filter_cons_of_neg (by simp [h2])]
    congr 1
    · refine List.filter_eq_self.2 fun f hf => decide_eq_true fun e' => ?_
      obtain ⟨k, hk, rfl⟩ := List.getElem_of_mem hf
      have hk' : k < pl fs n := by simp at hk; omega
      rw [List.getElem_take] at e'
      have := at_pl hr (by omega) e'
      omega
    · refine List.filter_eq_self.2 fun f hf => decide_eq_true fun e' => ?_
      obtain ⟨k, hk, rfl⟩ := List.getElem_of_mem hf
      rw [List.getElem_drop] at e'
      have := at_pl hr (by simp at hk; omega) e'
      omega
end Go.Proofs.Ytnapgjojhkghfaa
