/- For DiskBounds: a call that is refused changes nothing; the document's names. -/
import Derived.Test.YtbdokdhconhifaaGreatDoorDkYJ
import Derived.Laws.Cover1
namespace Go.Proofs.YtbdokdhconhifaaGreatDoor
open Go.RowKit Go.Shelf
set_option maxRecDepth 8000

theorem act_no {D : DkD} {e : Int} {fs : List FiD} (h : (D.act e fs).1 ≠ 0) : (D.act e fs).2.files = D.files ∧ (D.act e fs).2.writes = D.writes := by
  unfold DkD.act at h ⊢
  split
  · rename_i he
    split
    · exact ⟨off_files D, off_writes D⟩
    · rename_i ha
      rw [if_pos he, if_neg ha] at h
      exact absurd rfl h
  · exact ⟨rfl, rfl⟩

theorem actK_no {D : DkD} {o : OpK} (h : (actK D o).1 ≠ 0) : (actK D o).2.files = D.files ∧ (actK D o).2.writes = D.writes := by
  unfold actK at h ⊢
  split
  · rename_i h1; rw [if_pos h1] at h; exact act_no h
  · rename_i h1
    rw [if_neg h1] at h
    split
    · rename_i h2; rw [if_pos h2] at h; exact act_no h
    · rename_i h2
      rw [if_neg h2] at h
      split
      · rename_i h3; rw [if_pos h3] at h; exact act_no h
      · rename_i h3
        rw [if_neg h3] at h
        split
        · rename_i h4; rw [if_pos h4] at h; exact act_no h
        · rename_i h4
          rw [if_neg h4] at h
          split
          · rename_i h5; rw [if_pos h5] at h; exact act_no h
          · exact ⟨rfl, rfl⟩

theorem less_of_cmp : ∀ (a b : List UInt8), Lib.compareBytes a b < 0 → Op.bytesLess a b = true
  | [], [], h => by simp [Lib.compareBytes] at h
  | [], _ :: _, _ => rfl
  | _ :: _, [], h => by simp [Lib.compareBytes] at h
  | a :: x, b :: y, h => by
    unfold Lib.compareBytes at h
    unfold Op.bytesLess
    by_cases h1 : a < b
    · simp [h1]
    · rw [if_neg h1] at h
      by_cases h2 : b < a
      · rw [if_pos h2] at h; simp at h
      · rw [if_neg h2] at h
        have e : a = b := by
          have h1' : ¬ a.toNat < b.toNat := h1
          have h2' : ¬ b.toNat < a.toNat := h2
          exact UInt8.toNat_inj.1 (by omega)
        simp [e, less_of_cmp x y h]

theorem less_name {a b : ByteArray} (h : ncmp a b < 0) : Op.bytesLess a.toList b.toList = true := by
  rw [ByteArray.toList_eq, ByteArray.toList_eq]
  exact less_of_cmp _ _ h

theorem rise_at {fs : List FiD} (hr : Rise fs) (i : Nat) (hi : i + 1 < fs.length) : ncmp fs[i].name fs[i + 1].name < 0 :=
  List.pairwise_iff_getElem.1 hr i (i + 1) (by omega) hi (by omega)

theorem used_take (fs : List FiD) (i : Nat) (hi : i < fs.length) : usedD (fs.take (i + 1)) = usedD (fs.take i) + fs[i].bytes.length := by
  rw [List.take_add_one, List.getElem?_eq_getElem hi, usedD_append]
  simp [usedD]

set_option maxHeartbeats 1000000 in
theorem refName_yes (n : ByteArray) (h : isNm n = true) (w : World) : Calls Tryz.prog 24 #[.string n] w fun e w' => e = .returned (.bool true) ∧ w' = w := by
  unfold isNm at h
  simp only [Bool.and_eq_true, decide_eq_true_eq] at h
  obtain ⟨⟨h1, h2⟩, h3⟩ := h
  have H3 : Hid _ := h3
  clear h3
  have hz : n.data.toList.length = n.size := by rw [Array.length_toList]; rfl
  have d1 : decide ((n.size : Int) ≥ 1) = true := by simp; omega
  have d2 : decide ((n.size : Int) ≤ 24) = true := by simp; omega
  go_enter Tryz.func24, Tryz.ntmps24
  go_wp2_with fail
  go_loopw [3] (fun vi wr => ∃ k : Nat, k ≤ n.size ∧ vi = .int .i64 k ∧ wr = w) (fun vi _ => n.size - (intOf vi).toNat)
  case atStart => exact ⟨0, Nat.zero_le _, rfl, rfl⟩
  case round =>
    obtain ⟨k, hk, rfl, rfl⟩ := hrel
    by_cases hlt : k < n.size
    · have hnk : n.data.toList[k] = n[k] := by rw [Array.getElem_toList]; rfl
      have hch : chB n[k].toNat = true := by
        have := List.all_eq_true.1 H3.out n[k] (by rw [← hnk]; exact List.getElem_mem _)
        exact this
      have hc := (chB_iff _).1 hch
      clear hch hnk
      go_wp2_with fail
      all_goals (try simp only [bne_eq_false_iff_eq] at *)
      all_goals (first | exact ⟨⟨k + 1, by omega, by go_num, by trivial⟩, by simp [intOf]; omega⟩ | (exfalso; omega))
    · obtain rfl : k = n.size := by omega
      go_wp2_with fail
      go_ret
      exact ⟨rfl, rfl⟩
end Go.Proofs.YtbdokdhconhifaaGreatDoor

/- The document's disk (lagoonref02.Disk) as data, and how it goes beside the program's: data alone; no Go function is walked here. -/
namespace Go.Proofs.YtbdokdhconhifaaGreatDoor
open Go.RowKit
set_option maxRecDepth 8000

/-- The document's disk, as data. -/
structure RD where
  files : List FiD
  room : Int
  power : Bool
  armed : Bool
  more : Int
  done : Int

/-- The program's disk and the document's, alike. -/
structure Play (D : DkD) (R : RD) : Prop where
  files : R.files = D.files
  room : R.room = D.room
  on : R.power = D.on
  done : R.done = D.writes
  arm : (R.armed = false ∧ D.armed = -1) ∨ (R.armed = true ∧ D.armed = R.more ∧ 0 ≤ R.more)

def RD.off (R : RD) : RD := { R with power := false, armed := false }
def RD.arm (R : RD) (n : Int) : RD := if R.power then { R with armed := decide (0 ≤ n), more := n } else R
def RD.start (R : RD) (ks : List Int) : RD := if R.power then R else { R with power := true, files := lossF R.files ks }
/-- A write: is it done, and what it leaves. -/
def RD.write (R : RD) : Bool × RD :=
  if R.armed then (if R.more = 0 then (false, R.off) else (true, { R with more := R.more - 1, done := R.done + 1 }))
  else (true, { R with done := R.done + 1 })
/-- A call that writes, refused ahead of its write by e. -/
def RD.act (R : RD) (e : Int) (fs : List FiD) : Int × RD := if e = 0 then (if R.write.1 then (0, { R.write.2 with files := fs }) else (23, R.write.2)) else (e, R)

theorem play_new (room : Int) : Play (newD room) ⟨[], room, true, false, 0, 0⟩ := ⟨rfl, rfl, rfl, rfl, .inl ⟨rfl, rfl⟩⟩

theorem play_off {D : DkD} {R : RD} (h : Play D R) (hD : D.on = false → D.armed = -1) : Play D.off R.off := by
  unfold DkD.off RD.off
  cases hon : D.on
  · exact ⟨h.files, h.room, hon.symm ▸ rfl, h.done, .inl ⟨rfl, hD hon⟩⟩
  · exact ⟨h.files, h.room, rfl, h.done, .inl ⟨rfl, rfl⟩⟩

theorem play_arm {D : DkD} {R : RD} (h : Play D R) (n : Int) : Play (D.arm n) (R.arm n) := by
  unfold DkD.arm RD.arm
  rw [h.on]
  cases hon : D.on
  · exact ⟨h.files, h.room, h.on, h.done, h.arm⟩
  · refine ⟨h.files, h.room, rfl, h.done, ?_⟩
    by_cases hn : 0 ≤ n
    · exact .inr ⟨decide_eq_true hn, by show max n (-1) = n; omega, hn⟩
    · exact .inl ⟨decide_eq_false hn, by show max n (-1) = -1; omega⟩

theorem play_start {D : DkD} {R : RD} (h : Play D R) (ks : List Int) : Play (D.start ks) (R.start ks) := by
  unfold DkD.start RD.start
  rw [h.on]
  cases hon : D.on
  · exact ⟨by show lossF R.files ks = lossF D.files ks; rw [h.files], h.room, rfl, h.done, h.arm⟩
  · exact ⟨h.files, h.room, h.on, h.done, h.arm⟩

/-- A disk that is off is not armed. -/
def Calm (D : DkD) : Prop := D.on = false → D.armed = -1
theorem calm_new (room : Int) : Calm (newD room) := fun h => by cases h
theorem calm_off (D : DkD) (h : Calm D) : Calm D.off := by
  unfold DkD.off
  cases hon : D.on
  · exact fun _ => h hon
  · exact fun _ => rfl
theorem calm_arm (D : DkD) (h : Calm D) (n : Int) : Calm (D.arm n) := by
  unfold DkD.arm
  cases hon : D.on
  · exact fun _ => h hon
  · exact fun e => by cases e
theorem calm_start (D : DkD) (ks : List Int) : Calm (D.start ks) := by
  unfold DkD.start
  cases hon : D.on
  · exact fun e => by cases e
  · exact fun e => by rw [if_pos rfl] at e; rw [hon] at e; cases e

/-- What a call that writes does to both. -/
theorem play_act {D : DkD} {R : RD} (h : Play D R) (hc : Calm D) (e : Int) (fs : List FiD) (he0 : e = 0 → D.on = true) : (R.act e fs).1 = (D.act e fs).1 ∧ Play (D.act e fs).2 (R.act e fs).2 ∧ Calm (D.act e fs).2 := by
  by_cases he : e = 0
  · subst he
    have hon := he0 rfl
    unfold RD.act DkD.act
    rw [if_pos rfl, if_pos rfl]
    unfold RD.write
    rcases h.arm with ⟨ha, hd⟩ | ⟨ha, hd, h0⟩
    · rw [ha, hd]
      refine ⟨rfl, ⟨rfl, h.room, h.on, by show R.done + 1 = D.writes + 1; rw [h.done], .inl ⟨rfl, ?_⟩⟩, fun e => ?_⟩
      · show max (D.armed - 1) (-1) = -1
        rw [hd]; omega
      · have e' : D.on = false := e
        rw [hon] at e'; cases e'
    · rw [ha, hd, if_pos rfl]
      by_cases hm : R.more = 0
      · rw [if_pos hm, if_pos hm]
        exact ⟨rfl, play_off h hc, calm_off D hc⟩
      · rw [if_neg hm, if_neg hm]
        refine ⟨rfl, ⟨rfl, h.room, h.on, by show R.done + 1 = D.writes + 1; rw [h.done], .inr ⟨rfl, ?_, ?_⟩⟩, fun e => ?_⟩
        · show max (D.armed - 1) (-1) = R.more - 1
          rw [hd]; omega
        · show 0 ≤ R.more - 1
          omega
        · have e' : D.on = false := e
          rw [hon] at e'; cases e'
  · rw [act_err he]
    unfold RD.act
    rw [if_neg he]
    exact ⟨rfl, h, hc⟩

/-- The place of a file, as the document's disk finds it. -/
def atI (fs : List FiD) (n : ByteArray) : Int := if hasF fs n then pl fs n else -1

/-- The files but for one. -/
theorem without_eq {fs : List FiD} (hr : Rise fs) (n : ByteArray) : fs.filter (fun f => decide (f.name ≠ n)) = fs.eraseIdx (dropI fs n) := by
  unfold dropI
  cases hh : hasF fs n
  · rw [if_neg (by simp), List.eraseIdx_of_length_le (Nat.le_refl _)]
    refine List.filter_eq_self.2 fun f hf => decide_eq_true fun e => ?_
    have := (hasF_mem hr n).2 ⟨f, hf, e⟩
    rw [hh] at this
    cases this
  · rw [if_pos rfl]
    obtain ⟨h1, h2⟩ := (hasF_iff _ _).1 hh
    have e : fs = fs.take (pl fs n) ++ fs[pl fs n] :: fs.drop (pl fs n + 1) := by rw [← List.drop_eq_getElem_cons h1, List.take_append_drop]
    rw [List.eraseIdx_eq_take_drop_succ]
    conv => lhs; rw [e]
    rw [List.filter_append, List.filter_cons_of_neg (by simp [h2])]
    congr 1
    · refine List.filter_eq_self.2 fun f hf => decide_eq_true fun e' => ?_
      obtain ⟨k, hk, rfl⟩ := List.getElem_of_mem hf
      have hk' : k < pl fs n := by simp at hk; omega
      rw [List.getElem_take] at e'
      have := at_pl hr (by omega) e'
      omega
    · refine List.filter_eq_self.2 fun f hf => decide_eq_true fun e' => ?_
      obtain ⟨k, hk, rfl⟩ := List.getElem_of_mem hf
      rw [List.getElem_drop] at e'
      have := at_pl hr (by simp at hk; omega) e'
      omega
end Go.Proofs.YtbdokdhconhifaaGreatDoor

/- The document's disk (lagoonref02.Disk) in memory. -/
namespace Go.Proofs.YtbdokdhconhifaaGreatDoor
open Go.RowKit
set_option maxRecDepth 8000

abbrev rdQ (fv : Value) (R : RD) : Array Value := #[.int .i64 R.room, fv, .bool R.power, .bool R.armed, .int .i64 R.more, .int .i64 R.done]

/-- The blocks of a document's disk. -/
def rfoot (p : Nat) (fv : Value) (vs : List Value) : List Nat := p :: (fv.ownBlock.toList ++ vs.flatMap (fun v => v.ownBlock.toList))

theorem mem_rfoot_p {p : Nat} {fv : Value} {vs : List Value} : p ∈ rfoot p fv vs := List.mem_cons_self ..
theorem mem_rfoot_fv {p : Nat} {fv : Value} {vs : List Value} {k : Nat} (h : fv.ownBlock = some k) : k ∈ rfoot p fv vs :=
  List.mem_cons_of_mem _ (List.mem_append.2 (.inl (by rw [h]; simp)))
theorem mem_rfoot_v {p : Nat} {fv : Value} {vs : List Value} {u : Value} {k : Nat} (hu : u ∈ vs) (h : u.ownBlock = some k) : k ∈ rfoot p fv vs :=
  List.mem_cons_of_mem _ (List.mem_append.2 (.inr (List.mem_flatMap.2 ⟨u, hu, by rw [h]; simp⟩)))
theorem mem_rfoot {p : Nat} {fv : Value} {vs : List Value} {k : Nat} (h : k ∈ rfoot p fv vs) : k = p ∨ fv.ownBlock = some k ∨ ∃ u ∈ vs, u.ownBlock = some k := by
  rcases List.mem_cons.1 h with e | e
  · exact .inl e
  · rcases List.mem_append.1 e with e | e
    · right; left
      cases hv : fv.ownBlock with
      | none => rw [hv] at e; simp at e
      | some j => rw [hv] at e; simp at e; rw [e]
    · right; right
      obtain ⟨u, hu, hk⟩ := List.mem_flatMap.1 e
      refine ⟨u, hu, ?_⟩
      cases hv : u.ownBlock with
      | none => rw [hv] at hk; simp at hk
      | some j => rw [hv] at hk; simp at hk; rw [hk]

structure IsRd (w : World) (p : Nat) (fv : Value) (vs : List Value) (R : RD) : Prop where
  row : w.heap[p]? = some (.cells (rdQ fv R) 83 (0, 0))
  img : ImgAt w 0 fv R.files vs
  nd : (rfoot p fv vs).Nodup

theorem ImgAt.keptF {w w' : World} {S : Nat → Prop} {B : Nat} {v : Value} {fs : List FiD} {vs : List Value} (h : ImgAt w B v fs vs) (hk : Kept w w' S) (hv : ∀ k, v.ownBlock = some k → ¬ S k) (hs : ∀ u ∈ vs, ∀ k, u.ownBlock = some k → ¬ S k) : ImgAt w' B v fs vs :=
  ⟨h.len, row_kept' h.own hk hv, fun i u f hu hf => (h.bys i u f hu hf).kept hk (hs u (List.mem_of_getElem? hu))⟩

theorem IsRd.kept {w w' : World} {S : Nat → Prop} {p : Nat} {fv : Value} {vs : List Value} {R : RD} (h : IsRd w p fv vs R) (hk : Kept w w' S) (hS : ∀ k ∈ rfoot p fv vs, ¬ S k) : IsRd w' p fv vs R :=
  ⟨hk.heap h.row (hS p mem_rfoot_p), h.img.keptF hk (fun k e => hS k (mem_rfoot_fv e)) (fun _ hu k e => hS k (mem_rfoot_v hu e)), h.nd⟩

theorem IsRd.lt {w : World} {p : Nat} {fv : Value} {vs : List Value} {R : RD} (h : IsRd w p fv vs R) {k : Nat} (hk : k ∈ rfoot p fv vs) : k < w.heap.size := by
  rcases mem_rfoot hk with rfl | e | ⟨u, hu, e⟩
  · exact lt_of_block h.row
  · obtain ⟨_, ⟨e0, _⟩ | ⟨g, cap, cur, e0, _, h3, _⟩⟩ := h.img.own
    · rw [e0] at e; cases e
    · rw [e0] at e
      have : g = k := by simpa [Value.ownBlock] using e
      rw [← this]
      exact lt_of_block h3
  · obtain ⟨i, hi⟩ := List.mem_iff_getElem?.1 hu
    have hil : i < R.files.length := by
      have := (List.getElem?_eq_some_iff.1 hi).1
      rw [h.img.len] at this
      exact this
    exact rows_ltK (h.img.bys i u _ hi (List.getElem?_eq_getElem hil)) e

theorem IsRd.later {w w' : World} {p : Nat} {fv : Value} {vs : List Value} {R : RD} (h : IsRd w p fv vs R) (hb : Below w.heap.size w w') : IsRd w' p fv vs R :=
  h.kept (Below.kept hb) (fun k hk e => by have := h.lt hk; omega)

theorem IsRd.cells {w : World} {p : Nat} {fv : Value} {vs : List Value} {R : RD} (h : IsRd w p fv vs R) : w.cell? ⟨p, 0, none⟩ = some (.int .i64 R.room) ∧ w.cell? ⟨p, 1, none⟩ = some fv ∧ w.cell? ⟨p, 2, none⟩ = some (.bool R.power) ∧ w.cell? ⟨p, 3, none⟩ = some (.bool R.armed) ∧ w.cell? ⟨p, 4, none⟩ = some (.int .i64 R.more) ∧ w.cell? ⟨p, 5, none⟩ = some (.int .i64 R.done) :=
  ⟨cell_of_row w p 0 _ _ _ h.row, cell_of_row w p 1 _ _ _ h.row, cell_of_row w p 2 _ _ _ h.row, cell_of_row w p 3 _ _ _ h.row, cell_of_row w p 4 _ _ _ h.row, cell_of_row w p 5 _ _ _ h.row⟩

/-- A call that turned a document's disk. -/
structure RdTo (w : World) (p : Nat) (fv : Value) (vs : List Value) (w' : World) (R' : RD) (fv' : Value) (vs' : List Value) : Prop where
  is : IsRd w' p fv' vs' R'
  kept : Kept w w' (· ∈ rfoot p fv vs)
  foot : ∀ k ∈ rfoot p fv' vs', k ∈ rfoot p fv vs ∨ w.heap.size ≤ k

theorem RdTo.refl {w : World} {p : Nat} {fv : Value} {vs : List Value} {R : RD} (h : IsRd w p fv vs R) : RdTo w p fv vs w R fv vs := ⟨h, Kept.refl _ _, fun _ hk => .inl hk⟩

theorem RdTo.trans {w w1 w2 : World} {p : Nat} {fv fv1 fv2 : Value} {vs vs1 vs2 : List Value} {R1 R2 : RD} (h : RdTo w p fv vs w1 R1 fv1 vs1) (g : RdTo w1 p fv1 vs1 w2 R2 fv2 vs2) : RdTo w p fv vs w2 R2 fv2 vs2 :=
  ⟨g.is, h.kept.trans' g.kept (fun _ _ e => e) (fun k hk e => by rcases h.foot k e with e | e; exact e; omega), fun k hk => by
    rcases g.foot k hk with e | e
    · exact h.foot k e
    · exact .inr (Nat.le_trans h.kept.size e)⟩

/-- A file of the document's disk: its cells. -/
theorem IsRd.file {w : World} {p : Nat} {fv : Value} {vs : List Value} {R : RD} (h : IsRd w p fv vs R) (i : Nat) (hi : i < R.files.length) : ∃ g c u, fv = .slice (some ⟨g, 0, none⟩) R.files.length c ∧ R.files.length ≤ c ∧ c ≤ maxLen ∧ vs[i]? = some u ∧ w.cell? ⟨g, i * 3, none⟩ = some (.string R.files[i].name) ∧ w.cell? ⟨g, i * 3 + 1, none⟩ = some u ∧ w.cell? ⟨g, i * 3 + 2, none⟩ = some (.int .i64 R.files[i].dur) ∧ Owns w 0 u R.files[i].bytes := by
  obtain ⟨hl, ⟨_, e⟩ | ⟨g, cap, cur, e, _, _, h4, h5, _⟩⟩ := h.img.own
  · rw [e] at hi; simp at hi
  · subst e
    obtain ⟨u, hu, a0, a1, a2, ho⟩ := h.img.cells i hi
    exact ⟨g, cap, u, rfl, h4, h5, hu, a0, a1, a2, ho⟩
end Go.Proofs.YtbdokdhconhifaaGreatDoor

/- The document's names: lagoonref02.Name answers for every text. -/
namespace Go.Proofs.YtbdokdhconhifaaGreatDoor
open Go.RowKit Go.Shelf
set_option maxRecDepth 8000

set_option linter.unusedSimpArgs false in
set_option maxHeartbeats 1000000 in
theorem refName_any (n : ByteArray) (hs : n.size ≤ 140737488355328) (w : World) : Calls Tryz.prog 24 #[.string n] w fun e w' => e = .returned (.bool (isNm n)) ∧ w' = w := by
  have hz : n.data.toList.length = n.size := by rw [Array.length_toList]; rfl
  go_enter Tryz.func24, Tryz.ntmps24
  go_wp2_with fail
  go_loopw [3] (fun vi wr => ∃ k : Nat, k ≤ n.size ∧ vi = .int .i64 k ∧ Hid ((n.data.toList.take k).all (fun c => chB c.toNat) = true) ∧ wr = w) (fun vi _ => n.size - (intOf vi).toNat)
  case atStart => exact ⟨0, Nat.zero_le _, rfl, by show _ = _; simp, rfl⟩
  case round =>
    obtain ⟨k, hk, rfl, HA, rfl⟩ := hrel
    by_cases hlt : k < n.size
    · have e1 := all_take n.data.toList (fun c => chB c.toNat) k (by omega)
      rw [HA.out, Bool.true_and] at e1
      have HE : Hid _ := e1
      clear e1
      have hnk : n.data.toList[k] = n[k] := by rw [Array.getElem_toList]; rfl
      rw [hnk] at HE
      have hch := chB_iff n[k].toNat
      have HNO : Hid (chB n[k].toNat = false → isNm n = false) := fun e => by
        unfold isNm
        have : n.data.toList.all (fun c => chB c.toNat) = false := by
          rw [List.all_eq_false]
          exact ⟨n[k], by rw [← hnk]; exact List.getElem_mem _, by rw [e]; simp⟩
        rw [this, Bool.and_false]
      have HCH : Hid _ := hch
      clear hch hnk
      go_wp2_with fail
      all_goals (try simp only [bne_iff_ne, bne_eq_false_iff_eq, ne_eq, Bool.not_eq_false', Bool.not_eq_true', Bool.not_eq_true, Bool.not_eq_false, decide_eq_true_eq, decide_eq_false_iff_not] at *)
      all_goals (first | (refine ⟨⟨k + 1, by omega, by go_num, ?_, by trivial⟩, by simp [intOf]; omega⟩; (show _ = _); rw [HE.out]; (refine HCH.out.2 ?_); omega) | (rw [HNO.out (by rw [Bool.eq_false_iff]; intro e; have e := HCH.out.1 e; omega)]; go_ret; exact ⟨rfl, rfl⟩))
    · obtain rfl : k = n.size := by omega
      have HF : Hid (isNm n = (decide (1 ≤ n.size) && decide (n.size ≤ 24))) := by
        show _ = _
        unfold isNm
        have := HA.out
        rw [List.take_of_length_le (by omega)] at this
        rw [this, Bool.and_true]
      by_cases h1 : 1 ≤ n.size
      · have d1 : decide ((n.size : Int) ≥ 1) = true := by simp; omega
        by_cases h2 : n.size ≤ 24
        · have d2 : decide ((n.size : Int) ≤ 24) = true := by simp; omega
          rw [decide_eq_true h1, decide_eq_true h2] at HF
          go_wp2_with fail
          go_ret
          exact ⟨by rw [HF.out]; rfl, rfl⟩
        · have d2 : decide ((n.size : Int) ≤ 24) = false := by simp; omega
          rw [decide_eq_true h1, decide_eq_false h2] at HF
          go_wp2_with fail
          go_ret
          exact ⟨by rw [HF.out]; rfl, rfl⟩
      · have d1 : decide ((n.size : Int) ≥ 1) = false := by simp; omega
        rw [decide_eq_false h1] at HF
        go_wp2_with fail
        go_ret
        exact ⟨by rw [HF.out]; rfl, rfl⟩
end Go.Proofs.YtbdokdhconhifaaGreatDoor

/- The document's disk: At, Sum, write, Off, Arm. -/
namespace Go.Proofs.YtbdokdhconhifaaGreatDoor
open Go.RowKit Go.Shelf
set_option maxRecDepth 8000

theorem toList_inj {a b : ByteArray} (h : a.toList = b.toList) : a = b := by
  rw [ByteArray.toList_eq, ByteArray.toList_eq] at h
  exact ByteArray.ext (Array.toList_inj.1 h)

set_option maxHeartbeats 1000000 in
theorem refAt_any {w : World} {p : Nat} {fv : Value} {vs : List Value} {R : RD} (h : IsRd w p fv vs R) (hr : Rise R.files) (hfew : R.files.length ≤ 64) (n : ByteArray) :
    Calls Tryz.prog 25 #[.pointer (some ⟨p, 0, none⟩), .string n] w fun e w' => e = .returned (.int .i64 (atI R.files n)) ∧ w' = w := by
  have c1 := h.cells.2.1
  have hl := lt_of_block h.row
  have HH : Hid _ := h
  have HR : Hid _ := hr
  obtain ⟨N, hN⟩ : ∃ N, N = R.files.length := ⟨_, rfl⟩
  obtain ⟨fa, fc, hfv, hfc, hfm⟩ : ∃ fa fc, fv = .slice fa N fc ∧ N ≤ fc ∧ fc ≤ 9223372036854775807 := by
    rw [hN]
    obtain ⟨_, ⟨e, e0⟩ | ⟨g, cap, cur, e, _, _, h4, h5, _⟩⟩ := h.img.own
    · exact ⟨none, 0, by rw [e, e0], by rw [e0]; omega, by omega⟩
    · unfold maxLen at h5
      exact ⟨_, _, e, h4, by omega⟩
  rw [hfv] at c1
  have HFV : Hid _ := hfv
  rw [← hN] at hfew
  have HN : Hid _ := hN
  clear h hr hN hfv
  go_enter Tryz.func25, Tryz.ntmps25
  go_wp2_with fail
  go_loopw [5] (fun vi wr => ∃ k : Nat, k ≤ N ∧ vi = .int .i64 k ∧ Hid (∀ j (hj : j < R.files.length), j < k → R.files[j].name ≠ n) ∧ wr = w) (fun vi _ => N - (intOf vi).toNat)
  case atStart => exact ⟨0, Nat.zero_le _, rfl, fun j hj e => by omega, rfl⟩
  case round =>
    obtain ⟨k, hk, rfl, HA, rfl⟩ := hrel
    by_cases hlt : k < N
    · have hlt1 : k < R.files.length := by rw [← HN.out]; exact hlt
      obtain ⟨g, c, u, e0, _, _, _, a0, _, _, _⟩ := HH.out.file k hlt1
      rw [HFV.out] at e0
      obtain ⟨rfl, _, rfl⟩ := Value.slice.inj e0
      by_cases hn : R.files[k].name = n
      · have hb : (R.files[k].name.toList == n.toList) = true := by rw [hn]; simp
        have HF : Hid (atI R.files n = (k : Int)) := by
          show _ = _
          unfold atI
          rw [(hasF_mem HR.out n).2 ⟨_, List.getElem_mem hlt1, hn⟩, if_pos rfl, at_pl HR.out hlt1 hn]
        generalize R.files[k].name = nm at *
        clear e0
        go_wp2_with fail
        go_ret
        exact ⟨by rw [HF.out]; rfl, rfl⟩
      · have hb : (R.files[k].name.toList == n.toList) = false := by
          rw [beq_eq_false_iff_ne]
          exact fun e => hn (toList_inj e)
        have hb2 : ¬ R.files[k].name.toList = n.toList := fun e => hn (toList_inj e)
        have HA2 : Hid (∀ j (hj : j < R.files.length), j < k + 1 → R.files[j].name ≠ n) := fun j hj e => by
          by_cases hjk : j = k
          · subst hjk; exact hn
          · exact HA.out j hj (by omega)
        generalize R.files[k].name = nm at *
        clear e0
        go_wp2_with fail
        go_roundw
        case rel => exact ⟨k + 1, by omega, by go_num, HA2, by trivial⟩
        case measure => simp [intOf]; omega
    · obtain rfl : k = N := by omega
      have HF : Hid (atI R.files n = -1) := by
        show _ = _
        unfold atI
        have : hasF R.files n = false := by
          rw [Bool.eq_false_iff]
          intro e
          obtain ⟨f, hf, e'⟩ := (hasF_mem HR.out n).1 e
          obtain ⟨j, hj, rfl⟩ := List.getElem_of_mem hf
          exact HA.out j hj (by rw [HN.out]; exact hj) e'
        rw [this]
        rfl
      go_wp2_with fail
      go_ret
      exact ⟨by rw [HF.out]; rfl, rfl⟩

/-- A call that turned the numbers of the disk's own row alone. -/
theorem IsRd.fields {w w' : World} {p : Nat} {fv : Value} {vs : List Value} {R R' : RD} (h : IsRd w p fv vs R) (hk : Kept w w' (· = p)) (hrow : w'.heap[p]? = some (.cells (rdQ fv R') 83 (0, 0))) (hf : R'.files = R.files) : RdTo w p fv vs w' R' fv vs := by
  have hnp := (List.nodup_cons.1 h.nd).1
  refine ⟨⟨hrow, ?_, h.nd⟩, hk.mono (fun k _ e => by rw [e]; exact mem_rfoot_p), fun k hk => .inl hk⟩
  rw [hf]
  exact h.img.keptF hk (fun k e e' => hnp (by rw [← e']; exact (List.mem_cons.1 (mem_rfoot_fv (p := p) (vs := vs) e)).resolve_left (fun e'' => hnp (List.mem_append.2 (.inl (by rw [e, e'']; simp)))))) (fun u hu k e e' => hnp (by rw [← e']; exact List.mem_append.2 (.inr (List.mem_flatMap.2 ⟨u, hu, by rw [e]; simp⟩))))

end Go.Proofs.YtbdokdhconhifaaGreatDoor