/- What a disk tells: Names, Used, Writes, Image. -/
import Derived.Test.YtdhnbgeijfgfaaaGreatDoorDkMJ
namespace Go.Proofs.YtdhnbgeijfgfaaaGreatDoor
open Go.RowKit Go.Shelf
set_option maxRecDepth 8000

abbrev nmC (fs : List FiD) : List Value := fs.map fun f => .string f.name

set_option maxHeartbeats 1000000 in
theorem dkNames_any {w : World} {p : Nat} {fv : Value} {ms : List FiM} {D : DkD} (h : IsDk w p fv ms D) (ok : DkOk D) :
    Calls Tryz.prog 63 #[.pointer (some ⟨p, 0, none⟩)] w fun e w' => e = .returned (.slice (some ⟨w.heap.size, 0, none⟩) D.files.length D.files.length) ∧ w'.ownsRow w.heap.size 9 1 (.slice (some ⟨w.heap.size, 0, none⟩) D.files.length D.files.length) D.files.length (nmC D.files) ∧ Below w.heap.size w w' := by
  obtain ⟨c0, c1, c2, c3, c4, c5⟩ := h.cells
  have hl := lt_of_block h.row
  obtain ⟨fa, fc, hfv, hfc, hfm⟩ := fv_shape h
  unfold maxLen at hfm
  have hlen := h.len
  have HFV : Hid _ := hfv
  rw [hfv, hlen] at c0
  rw [hlen] at hfc
  have HLN : Hid _ := hlen
  have HH : Hid (IsDk w p fv ms D ∧ DkOk D) := ⟨h, ok⟩
  have hfew := ok.few
  obtain ⟨i0, hi, hz0, hz1, hz2⟩ := info_parts Tryz.infoStrD
  clear h ok hfv hlen c1 c2 c3 c4 c5
  obtain ⟨N, hN⟩ : ∃ N, N = D.files.length := ⟨_, rfl⟩
  rw [← hN] at c0 hfc hfew ⊢
  have HN : Hid _ := hN
  clear hN
  go_enter Tryz.func63, Tryz.ntmps63
  go_upto_region 2 with (at_make; refine wpList_make_full _ rfl _ _ 73 rfl w.heap.size 9 i0 _ 1 Tryz.underlying73 hi hz0 hz1 .i64 .i64 _ _ N rfl rfl (by omega) (by omega) (by rw [hz2]; omega) (by unfold maxLen; omega) (Nat.le_refl _) ?_)
  intro w2 hown hgrow
  have hb2 : Below w.heap.size w w2 := (Below.refl _ _).grown hgrow (Nat.le_refl _) (fun k hk => by simp at hk)
  obtain ⟨cur, hg, hsz⟩ : ∃ cur : Array Value, w2.heap[w.heap.size]? = some (.cells cur 9 (0, 0)) ∧ cur.size = N := by
    obtain ⟨_, ⟨e, _⟩ | ⟨g, cap, cur, e, _, h3, _, _, h6, _⟩⟩ := hown
    · cases e
    · simp at e
      obtain ⟨rfl, rfl⟩ := e
      exact ⟨cur, h3, by simpa using h6⟩
  have d0 := cell_later c0 hb2 (Nat.le_refl _)
  have hl2 : p < w2.heap.size := Nat.lt_of_lt_of_le hl hb2.size
  have H0 : Hid (∃ (cur : Array Value), w2.heap[w.heap.size]? = some (.cells cur 9 (0, 0)) ∧ cur.size = N ∧ cur.toList.take 0 = nmC (D.files.take 0) ∧ Below w.heap.size w w2) := ⟨cur, hg, hsz, rfl, hb2⟩
  clear hown hgrow hg hsz hb2 hi hz0 hz1 hz2 c0
  go_wp2_with fail
  go_loopw [17] (fun vi wr => ∃ k : Nat, k ≤ N ∧ vi = .int .i64 k ∧ Hid (∃ (cur : Array Value), wr.heap[w.heap.size]? = some (.cells cur 9 (0, 0)) ∧ cur.size = N ∧ cur.toList.take k = nmC (D.files.take k) ∧ Below w.heap.size w wr)) (fun vi _ => N - (intOf vi).toNat)
  case atStart => exact ⟨0, Nat.zero_le _, rfl, H0⟩
  case round =>
    obtain ⟨k, hk, rfl, HI⟩ := hrel
    clear H0 d0
    by_cases hlt : k < N
    · have hlt' : k < D.files.length := by rw [← HN.out]; exact hlt
      have hkm : k < ms.length := by rw [HLN.out]; exact hlt'
      obtain ⟨g, cap, hfv1, hp1⟩ := ptr_at HH.out.1 k hkm
      rw [HFV.out] at hfv1
      obtain ⟨rfl, rfl⟩ : fa = some ⟨g, 0, none⟩ ∧ fc = cap := by simpa using hfv1
      obtain ⟨cur, hg, hsz, htk, hbw⟩ := HI.out
      have hf0 := HH.out.1.file k _ _ (List.getElem?_eq_getElem hkm) (List.getElem?_eq_getElem hlt')
      have hp2 := cell_later hp1 hbw (Nat.le_refl _)
      have k0 := cell_later (fl_cells' hf0).1 hbw (Nat.le_refl _)
      have hlm : ms[k].q < wr.heap.size := Nat.lt_of_lt_of_le (lt_of_block hf0.row) hbw.size
      have hfr : wr.frozen? ⟨w.heap.size, k, none⟩ = false := frozen_of_row wr _ _ _ _ hg
      have hck : wr.cell? ⟨w.heap.size, k, none⟩ = some (cur[k]'(by omega)) := by rw [cell_of_row wr _ _ _ _ _ hg, Array.getElem?_eq_getElem (by omega)]
      have hlB := lt_of_block hg
      have HR : Hid (∃ (cur : Array Value), (wr.setCell ⟨w.heap.size, k, none⟩ (.string D.files[k].name)).heap[w.heap.size]? = some (.cells cur 9 (0, 0)) ∧ cur.size = N ∧ cur.toList.take (k + 1) = nmC (D.files.take (k + 1)) ∧ Below w.heap.size w (wr.setCell ⟨w.heap.size, k, none⟩ (.string D.files[k].name))) := by
        refine ⟨cur.setIfInBounds k (.string D.files[k].name), heap_setK _ hg, by simp [hsz], ?_, hbw.setCell (p := ⟨w.heap.size, k, none⟩) (Nat.le_refl _) _⟩
        rw [List.take_add_one (l := D.files), List.getElem?_eq_getElem hlt']
        simp only [nmC, List.map_append]
        have hl' : k < cur.toList.length := by rw [Array.length_toList]; omega
        rw [Array.toList_setIfInBounds, List.take_add_one, List.getElem?_set, if_pos rfl, if_pos hl', List.take_set_of_le (Nat.le_refl k), htk]
        rfl
      generalize D.files[k].name = nm at *
      generalize ms[k].q = mq at *
      generalize cur[k]'(by omega) = cv at *
      clear hf0 hp1 hg hsz htk hbw hfv1 HI hlt' hkm
      go_wp2_with fail
      go_roundw
      case rel => exact ⟨k + 1, by omega, by go_num, HR⟩
      case measure => simp [intOf]; omega
    · obtain rfl : k = N := by omega
      go_wp2_with fail
      go_ret
      obtain ⟨cur, hg, hsz, htk, hbw⟩ := HI.out
      have e : D.files.take k = D.files := List.take_of_length_le (by have := HN.out; omega)
      rw [e] at htk
      refine ⟨rfl, ⟨by simp [nmC, HN.out], .inr ⟨w.heap.size, k, cur, rfl, Nat.le_refl _, hg, Nat.le_refl _, by unfold maxLen; omega, by omega, by rw [Nat.mul_one]; exact htk⟩⟩, hbw⟩

theorem dNames_any {w : World} {p : Nat} {fv : Value} {ms : List FiM} {D : DkD} (h : IsDk w p fv ms D) (ok : DkOk D) :
    Calls Tryz.prog 37 #[.pointer (some ⟨p, 0, none⟩)] w fun e w' => e = .returned (.slice (some ⟨w.heap.size, 0, none⟩) D.files.length D.files.length) ∧ w'.ownsRow w.heap.size 9 1 (.slice (some ⟨w.heap.size, 0, none⟩) D.files.length D.files.length) D.files.length (nmC D.files) ∧ Below w.heap.size w w' := by
  have HC : Hid _ := dkNames_any h ok
  have hl := lt_of_block h.row
  clear h ok
  go_enter Tryz.func37, Tryz.ntmps37
  go_wp2_with fail
  refine Calls.mono HC.out ?_
  rintro e w1 ⟨rfl, h1⟩
  have H1 : Hid _ := h1
  clear h1 HC
  go_wp2_with fail
  go_ret
  exact ⟨rfl, H1.out⟩

theorem dImage_any {w : World} {p : Nat} {fv : Value} {ms : List FiM} {D : DkD} (h : IsDk w p fv ms D) (ok : DkOk D) :
    Calls Tryz.prog 46 #[.pointer (some ⟨p, 0, none⟩)] w fun e w' => e = .returned (.slice (some ⟨w.heap.size, 0, none⟩) D.files.length D.files.length) ∧ (∃ vs, ImgAt w' w.heap.size (.slice (some ⟨w.heap.size, 0, none⟩) D.files.length D.files.length) D.files vs) ∧ Below w.heap.size w w' := by
  have HC : Hid _ := image_any h ok
  have hl := lt_of_block h.row
  clear h ok
  go_enter Tryz.func46, Tryz.ntmps46
  go_wp2_with fail
  refine Calls.mono HC.out ?_
  rintro e w1 ⟨rfl, h1⟩
  have H1 : Hid _ := h1
  clear h1 HC
  go_wp2_with fail
  go_ret
  exact ⟨rfl, H1.out⟩

theorem dUsed_any {w : World} {p : Nat} {fv : Value} {ms : List FiM} {D : DkD} (h : IsDk w p fv ms D) (ok : DkOk D) :
    Calls Tryz.prog 39 #[.pointer (some ⟨p, 0, none⟩)] w fun e w' => e = .returned (.int .i64 (usedD D.files)) ∧ w' = w := by
  have HC : Hid _ := used_any h ok.few (by have := ok.fits; have := ok.r1; omega)
  have hl := lt_of_block h.row
  clear h ok
  go_enter Tryz.func39, Tryz.ntmps39
  go_wp2_with fail
  refine Calls.mono HC.out ?_
  rintro e w1 ⟨rfl, h1⟩
  have H1 : Hid _ := h1
  clear h1 HC
  go_wp2_with fail
  go_ret
  exact ⟨rfl, H1.out⟩

theorem dWrites_any {w : World} {p : Nat} {fv : Value} {ms : List FiM} {D : DkD} (h : IsDk w p fv ms D) :
    Calls Tryz.prog 45 #[.pointer (some ⟨p, 0, none⟩)] w fun e w' => e = .returned (.int .i64 D.writes) ∧ w' = w := by
  obtain ⟨c0, c1, c2, c3, c4, c5⟩ := h.cells
  have hl := lt_of_block h.row
  clear h
  go_enter Tryz.func45, Tryz.ntmps45
  go_wp2_with fail
  go_ret
  exact ⟨rfl, rfl⟩

abbrev newD (room : Int) : DkD := ⟨[], room, true, -1, 0⟩

theorem isDk_new (w : World) (room : Int) : IsDk (w.alloc (.cells (dkQ (.slice none 0 0) room true (-1) 0) 57)) w.heap.size (.slice none 0 0) [] (newD room) :=
  ⟨heap_alloc_new w _, rfl, ⟨by simp [ptrs], .inl ⟨rfl, rfl⟩⟩, fun k m f hm => by simp at hm, by simp [foot, Value.ownBlock]⟩

theorem dkOk_new (room : Int) (h0 : 0 ≤ room) (h1 : room ≤ 16777216) : DkOk (newD room) :=
  ⟨List.Pairwise.nil, by simp, fun f hf => by simp at hf, fun f hf => by simp at hf, h0, h1, by simpa [usedD] using h0, by simp, by simp, by simp⟩

theorem new_yes (room : Int) (w : World) (hq : 0 ≤ room ∧ room ≤ 16777216) : Calls Tryz.prog 29 #[.int .i64 room] w fun e w' => e = .returned (.tuple #[.pointer (some ⟨w.heap.size, 0, none⟩), .int .i64 0]) ∧ w' = w.alloc (.cells (dkQ (.slice none 0 0) room true (-1) 0) 57) := by
  have hd1 : decide (room < 0) = false := decide_eq_false (by omega)
  have hd2 : decide (room > 16777216) = false := decide_eq_false (by omega)
  have HF : Hid (Calls Tryz.prog 7 #[.int .i64 room, .slice none 0 0] w fun e w' => e = .returned (.tuple #[.pointer (some ⟨w.heap.size, 0, none⟩), .int .i64 0]) ∧ w' = w.alloc (.cells (dkQ (.slice none 0 0) room true (-1) 0) 57)) := by
    show Calls _ _ _ _ _
    go_enter Tryz.func7, Tryz.ntmps7
    go_wp2_with fail
    go_loopw [21] (fun vi w2 => vi = .int .i64 0 ∧ w2 = w.alloc (.cells (dkQ (.slice none 0 0) room true (-1) 0) 57)) (fun _ _ => 0)
    case atStart => exact ⟨rfl, rfl⟩
    case round =>
      obtain ⟨rfl, rfl⟩ := hrel
      go_wp2_with fail
      all_goals (go_ret2; exact ⟨rfl, rfl⟩)
  clear hq
  go_enter Tryz.func29, Tryz.ntmps29
  go_wp2_with fail
  refine Calls.mono HF.out ?_
  rintro e w1 ⟨rfl, hw1⟩
  subst w1
  go_wp2_with fail
  go_ret2
  exact ⟨rfl, rfl⟩

theorem new_no (room : Int) (w : World) (hq : ¬ (0 ≤ room ∧ room ≤ 16777216)) : Calls Tryz.prog 29 #[.int .i64 room] w fun e w' => e = .returned (.tuple #[.pointer none, .int .i64 1]) ∧ w' = w := by
  have HF : Hid (Calls Tryz.prog 7 #[.int .i64 room, .slice none 0 0] w fun e w' => e = .returned (.tuple #[.pointer none, .int .i64 1]) ∧ w' = w) := by
    show Calls _ _ _ _ _
    by_cases h0 : room < 0
    · have hd1 : decide (room < 0) = true := decide_eq_true h0
      go_enter Tryz.func7, Tryz.ntmps7
      go_wp2_with fail
      go_ret2
      exact ⟨rfl, rfl⟩
    · have hd1 : decide (room < 0) = false := decide_eq_false h0
      have hd2 : decide (room > 16777216) = true := decide_eq_true (by omega)
      go_enter Tryz.func7, Tryz.ntmps7
      go_wp2_with fail
      go_ret2
      exact ⟨rfl, rfl⟩
  clear hq
  go_enter Tryz.func29, Tryz.ntmps29
  go_wp2_with fail
  refine Calls.mono HF.out ?_
  rintro e w1 ⟨rfl, hw1⟩
  subst w1
  go_wp2_with fail
  go_ret2
  exact ⟨rfl, rfl⟩
end Go.Proofs.YtdhnbgeijfgfaaaGreatDoor

/- What always holds of a disk's data stays so behind every call. -/
namespace Go.Proofs.YtdhnbgeijfgfaaaGreatDoor
open Go.RowKit
set_option maxRecDepth 8000

/-- What always holds of a disk's files. -/
structure FOk (room : Int) (fs : List FiD) : Prop where
  rise : Rise fs
  few : fs.length ≤ 64
  nms : ∀ f ∈ fs, isNm f.name = true
  durs : ∀ f ∈ fs, 0 ≤ f.dur ∧ f.dur ≤ f.bytes.length
  fits : (usedD fs : Int) ≤ room

theorem DkOk.fok {D : DkD} (h : DkOk D) : FOk D.room D.files := ⟨h.rise, h.few, h.nms, h.durs, h.fits⟩
theorem DkOk.with {D D' : DkD} (h : DkOk D) (hr : D'.room = D.room) (hf : FOk D'.room D'.files) (ha : -1 ≤ D'.armed) (ha' : D'.armed ≤ 9223372036854775807) (hw : 0 ≤ D'.writes) : DkOk D' :=
  ⟨hf.rise, hf.few, hf.nms, hf.durs, by rw [hr]; exact h.r0, by rw [hr]; exact h.r1, hf.fits, ha, ha', hw⟩

theorem usedD_append (a b : List FiD) : usedD (a ++ b) = usedD a + usedD b := by simp [usedD]
theorem usedD_cons (f : FiD) (b : List FiD) : usedD (f :: b) = f.bytes.length + usedD b := by simp [usedD]

theorem used_split (fs : List FiD) (i : Nat) (hi : i < fs.length) : usedD fs = usedD (fs.eraseIdx i) + fs[i].bytes.length := by
  rw [List.eraseIdx_eq_take_drop_succ, usedD_append]
  have e : fs = fs.take i ++ fs[i] :: fs.drop (i + 1) := by rw [← List.drop_eq_getElem_cons hi, List.take_append_drop]
  have h := congrArg usedD e
  rw [usedD_append, usedD_cons] at h
  omega

theorem used_set (fs : List FiD) (i : Nat) (hi : i < fs.length) (f : FiD) : usedD (fs.set i f) = usedD (fs.eraseIdx i) + f.bytes.length := by
  rw [set_eq fs i f hi, usedD_append, usedD_cons]
  have h := congrArg usedD (List.take_append_drop i (fs.eraseIdx i))
  rw [usedD_append] at h
  omega

theorem used_ins (fs : List FiD) (f : FiD) : usedD (insF fs f) = usedD fs + f.bytes.length := by
  unfold insF
  rw [usedD_append, usedD_cons]
  have h := congrArg usedD (List.take_append_drop (pl fs f.name) fs)
  rw [usedD_append] at h
  omega

theorem used_erase_le (fs : List FiD) (i : Nat) : usedD (fs.eraseIdx i) ≤ usedD fs := by
  by_cases hi : i < fs.length
  · have := used_split fs i hi; omega
  · rw [List.eraseIdx_of_length_le (by omega)]; omega

theorem ncmp_self (n : ByteArray) : ncmp n n = 0 := (ncmp_eq n n).2 rfl

/-- A file of a name lies where the search says. -/
theorem at_pl {fs : List FiD} (hr : Rise fs) {n : ByteArray} {k : Nat} (hk : k < fs.length) (hn : fs[k].name = n) : pl fs n = k := by
  have h1 : ¬ k < pl fs n := fun e => by
    have := (pl_iff hr n k hk).2 e
    rw [hn, ncmp_self] at this
    omega
  by_cases h2 : pl fs n = k
  · exact h2
  · have h3 := List.pairwise_iff_getElem.1 hr (pl fs n) k (by omega) hk (by omega)
    rw [hn] at h3
    have := (pl_iff hr n (pl fs n) (by omega)).1 h3
    omega

theorem hasF_mem {fs : List FiD} (hr : Rise fs) (n : ByteArray) : hasF fs n = true ↔ ∃ f ∈ fs, f.name = n := by
  rw [hasF_iff]
  constructor
  · rintro ⟨h, e⟩; exact ⟨_, List.getElem_mem h, e⟩
  · rintro ⟨f, hf, e⟩
    obtain ⟨k, hk, rfl⟩ := List.getElem_of_mem hf
    have := at_pl hr hk e
    subst this
    exact ⟨hk, e⟩

theorem hasF_erase {fs : List FiD} (hr : Rise fs) (n : ByteArray) : hasF (fs.eraseIdx (dropI fs n)) n = false := by
  rw [Bool.eq_false_iff]
  intro h
  obtain ⟨f, hf, e⟩ := (hasF_mem (rise_erase hr _) n).1 h
  have hmem : f ∈ fs := List.mem_of_mem_eraseIdx hf
  have hh : hasF fs n = true := (hasF_mem hr n).2 ⟨f, hmem, e⟩
  have hd : dropI fs n = pl fs n := by unfold dropI; rw [hh]; rfl
  rw [hd] at hf
  obtain ⟨j, hj⟩ := List.mem_iff_getElem?.1 hf
  rw [getElem?_erase] at hj
  by_cases hjp : j < pl fs n
  · rw [if_pos hjp] at hj
    obtain ⟨hj1, hj2⟩ := List.getElem?_eq_some_iff.1 hj
    have := at_pl (n := n) hr hj1 (by rw [hj2]; exact e)
    omega
  · rw [if_neg hjp] at hj
    obtain ⟨hj1, hj2⟩ := List.getElem?_eq_some_iff.1 hj
    have := at_pl (n := n) hr hj1 (by rw [hj2]; exact e)
    omega

/-- One file turned, its name kept. -/
theorem FOk.set {room : Int} {fs : List FiD} (h : FOk room fs) {i : Nat} {f g : FiD} (hf : fs[i]? = some f) (hn : g.name = f.name) (hd : 0 ≤ g.dur ∧ g.dur ≤ g.bytes.length) (hu : (usedD fs : Int) + g.bytes.length - f.bytes.length ≤ room) : FOk room (fs.set i g) := by
  obtain ⟨hi, hfi⟩ := List.getElem?_eq_some_iff.1 hf
  have hnm : ∀ (j : Nat) (hj : j < fs.length), ((fs.set i g)[j]'(by simpa using hj)).name = fs[j].name := fun j hj => by
    rw [List.getElem_set]
    split
    · rename_i e; subst e; rw [hn, ← hfi]
    · rfl
  refine ⟨?_, by simpa using h.few, fun x hx => ?_, fun x hx => ?_, ?_⟩
  · unfold Rise
    rw [List.pairwise_iff_getElem]
    intro a b ha hb hab
    rw [hnm a (by simpa using ha), hnm b (by simpa using hb)]
    exact List.pairwise_iff_getElem.1 h.rise a b (by simpa using ha) (by simpa using hb) hab
  · rcases List.mem_or_eq_of_mem_set hx with hx | rfl
    · exact h.nms x hx
    · rw [hn, ← hfi]; exact h.nms _ (List.getElem_mem hi)
  · rcases List.mem_or_eq_of_mem_set hx with hx | rfl
    · exact h.durs x hx
    · exact hd
  · have h1 := used_split fs i hi
    have h2 := used_set fs i hi g
    rw [hfi] at h1
    omega

theorem FOk.erase {room : Int} {fs : List FiD} (h : FOk room fs) (i : Nat) : FOk room (fs.eraseIdx i) :=
  ⟨rise_erase h.rise i, Nat.le_trans (List.length_eraseIdx_le ..) h.few, fun f hf => h.nms f (List.mem_of_mem_eraseIdx hf), fun f hf => h.durs f (List.mem_of_mem_eraseIdx hf), by have := used_erase_le fs i; have := h.fits; omega⟩

theorem FOk.ins {room : Int} {fs : List FiD} (h : FOk room fs) (f : FiD) (hh : hasF fs f.name = false) (hl : fs.length ≤ 63) (hn : isNm f.name = true) (hd : 0 ≤ f.dur ∧ f.dur ≤ f.bytes.length) (hu : (usedD fs : Int) + f.bytes.length ≤ room) : FOk room (insF fs f) := by
  have hple := pl_le fs f.name
  refine ⟨rise_insert h.rise f hh, by unfold insF; simp; omega, fun x hx => ?_, fun x hx => ?_, by rw [used_ins]; omega⟩
  · rcases insM_mem hx with rfl | hx
    · exact hn
    · exact h.nms x hx
  · rcases insM_mem hx with rfl | hx
    · exact hd
    · exact h.durs x hx

theorem FOk.dur {room : Int} {fs : List FiD} (h : FOk room fs) (n : ByteArray) : FOk room (updF fs n durF) := by
  unfold updF
  cases hf : fs[pl fs n]? with
  | none => exact h
  | some f => exact h.set hf rfl ⟨by simp [durF], by simp [durF]⟩ (by have := h.fits; simp [durF]; omega)

theorem FOk.cut {room : Int} {fs : List FiD} (h : FOk room fs) (n : ByteArray) (k : Nat) (hk : ∀ f, fs[pl fs n]? = some f → k ≤ f.bytes.length) : FOk room (updF fs n (cutF k)) := by
  unfold updF
  cases hf : fs[pl fs n]? with
  | none => exact h
  | some f =>
    have := hk f hf
    exact h.set hf rfl ⟨by simp [cutF], by simp [cutF]; omega⟩ (by have := h.fits; simp [cutF]; omega)

theorem FOk.app {room : Int} {fs : List FiD} (h : FOk room fs) (n : ByteArray) (ys : List Int) (hn : isNm n = true) (hc : ¬ (hasF fs n = false ∧ 64 ≤ fs.length)) (hu : (ys.length : Int) ≤ room - usedD fs) : FOk room (appF fs n ys) := by
  unfold appF
  cases hb : hasF fs n
  · rw [if_neg (by simp)]
    exact h.ins ⟨n, ys, 0⟩ hb (by by_cases hl : 64 ≤ fs.length; exact absurd ⟨hb, hl⟩ hc; omega) hn ⟨by simp, by simp⟩ (by simp only; omega)
  · rw [if_pos rfl]
    unfold updF
    cases hf : fs[pl fs n]? with
    | none => exact h
    | some f =>
      have hd := h.durs f (List.mem_of_getElem? hf)
      exact h.set hf rfl ⟨hd.1, by simp; omega⟩ (by simp; omega)

theorem used_erase_eq {fs : List FiD} {i : Nat} {f : FiD} (hf : fs[i]? = some f) : usedD (fs.eraseIdx i) + f.bytes.length = usedD fs := by
  obtain ⟨hi, hfi⟩ := List.getElem?_eq_some_iff.1 hf
  have := used_split fs i hi
  rw [hfi] at this
  omega

theorem FOk.ren {room : Int} {fs : List FiD} (h : FOk room fs) (a b : ByteArray) (ha : hasF fs a = true) (hb : isNm b = true) : FOk room (renF fs a b) := by
  unfold renF
  cases hf : fs[pl fs a]? with
  | none => exact h
  | some f =>
    unfold movF
    have hd : dropI fs a = pl fs a := by unfold dropI; rw [ha]; rfl
    have hlt := (List.getElem?_eq_some_iff.1 hf).1
    have hdf := h.durs f (List.mem_of_getElem? hf)
    have h1 := h.erase (dropI fs a)
    have h2 := h1.erase (dropI (fs.eraseIdx (dropI fs a)) b)
    refine h2.ins ⟨b, f.bytes, f.dur⟩ (hasF_erase h1.rise b) ?_ hb hdf ?_
    · have hl1 : (fs.eraseIdx (dropI fs a)).length ≤ 63 := by rw [hd, List.length_eraseIdx, if_pos hlt]; have := h.few; omega
      exact Nat.le_trans (List.length_eraseIdx_le ..) hl1
    · have e1 := used_erase_eq hf
      have e2 := used_erase_le (fs.eraseIdx (dropI fs a)) (dropI (fs.eraseIdx (dropI fs a)) b)
      rw [hd] at e2 ⊢
      have := h.fits
      simp only
      omega

theorem lossF_at {fs : List FiD} {ks : List Int} {j : Nat} {f : FiD} (h : (lossF fs ks)[j]? = some f) : ∃ g, fs[j]? = some g ∧ f = lossAt g (ks.getD j 0) := by
  unfold lossF at h
  rw [List.getElem?_mapIdx] at h
  cases hg : fs[j]? with
  | none => rw [hg] at h; cases h
  | some g => rw [hg] at h; cases h; exact ⟨g, rfl, rfl⟩

theorem used_loss (fs : List FiD) (ks : List Int) : usedD (lossF fs ks) ≤ usedD fs := by
  have key : ∀ (l : List FiD) (f : Nat → FiD → FiD), (∀ i x, (f i x).bytes.length ≤ x.bytes.length) → usedD (l.mapIdx f) ≤ usedD l := by
    intro l
    induction l with
    | nil => intro f _; simp
    | cons a l ih =>
      intro f hf
      rw [List.mapIdx_cons, usedD_cons, usedD_cons]
      have h1 := hf 0 a
      have h2 := ih (fun i => f (i + 1)) (fun i x => hf (i + 1) x)
      omega
  exact key fs _ (fun i x => by simp only [lossAt, List.length_take]; omega)

theorem FOk.loss {room : Int} {fs : List FiD} (h : FOk room fs) (ks : List Int) : FOk room (lossF fs ks) := by
  have hl : (lossF fs ks).length = fs.length := by simp [lossF]
  have hnm : ∀ (j : Nat) (hj : j < fs.length), ((lossF fs ks)[j]'(by omega)).name = fs[j].name := fun j hj => by simp [lossF, lossAt]
  refine ⟨?_, by rw [hl]; exact h.few, fun f hf => ?_, fun f hf => ?_, by have := used_loss fs ks; have := h.fits; omega⟩
  · unfold Rise
    rw [List.pairwise_iff_getElem]
    intro a b ha hb hab
    rw [hnm a (by omega), hnm b (by omega)]
    exact List.pairwise_iff_getElem.1 h.rise a b (by omega) (by omega) hab
  · obtain ⟨j, hj⟩ := List.mem_iff_getElem?.1 hf
    obtain ⟨g, hg, rfl⟩ := lossF_at hj
    exact h.nms g (List.mem_of_getElem? hg)
  · obtain ⟨j, hj⟩ := List.mem_iff_getElem?.1 hf
    obtain ⟨g, hg, rfl⟩ := lossF_at hj
    have hd := h.durs g (List.mem_of_getElem? hg)
    have := leftN_le g (ks.getD j 0) hd.1 hd.2
    exact ⟨by simp only [lossAt]; omega, by simp only [lossAt, List.length_take]; omega⟩

theorem DkOk.off {D : DkD} (h : DkOk D) : DkOk D.off := by
  unfold DkD.off
  split
  · exact h.with rfl h.fok (by simp) (by simp) h.w0
  · exact h

theorem DkOk.arm {D : DkD} (h : DkOk D) (n : Int) (hn : n ≤ 9223372036854775807) : DkOk (D.arm n) := by
  unfold DkD.arm
  split
  · exact h.with rfl h.fok (by simp only; omega) (by simp only; omega) h.w0
  · exact h

theorem DkOk.start {D : DkD} (h : DkOk D) (ks : List Int) : DkOk (D.start ks) := by
  unfold DkD.start
  split
  · exact h
  · exact h.with rfl (h.fok.loss ks) h.a0 h.a1 h.w0

theorem DkOk.act {D : DkD} (h : DkOk D) (e : Int) (fs : List FiD) (hf : e = 0 → FOk D.room fs) : DkOk (D.act e fs).2 := by
  unfold DkD.act
  split
  · rename_i he
    split
    · exact h.off
    · exact h.with rfl (hf he) (by have := h.a0; simp only [DkD.done]; omega) (by have := h.a1; have := h.a0; simp only [DkD.done]; omega) (by have := h.w0; simp only [DkD.done]; omega)
  · exact h

theorem act_writes (D : DkD) (e : Int) (fs : List FiD) : (D.act e fs).2.writes ≤ D.writes + 1 := by
  unfold DkD.act
  split
  · split
    · unfold DkD.off; split <;> (simp only; omega)
    · simp only [DkD.done]; omega
  · simp only; omega

theorem act_room (D : DkD) (e : Int) (fs : List FiD) : (D.act e fs).2.room = D.room := by
  unfold DkD.act
  split
  · split
    · unfold DkD.off; split <;> rfl
    · rfl
  · rfl
end Go.Proofs.YtdhnbgeijfgfaaaGreatDoor
