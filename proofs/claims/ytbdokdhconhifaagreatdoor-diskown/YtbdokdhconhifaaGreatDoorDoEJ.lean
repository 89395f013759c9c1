/- What a disk tells: Names, Used, Writes, Image. -/
import Derived.Test.YtbdokdhconhifaaGreatDoorDkMJ
namespace Go.Proofs.YtbdokdhconhifaaGreatDoor
open Go.RowKit Go.Shelf
set_option maxRecDepth 8000

abbrev nmC (fs : List FiD) : List Value := fs.map fun f => .string f.name

set_option maxHeartbeats 1000000 in
theorem dkNames_any {w : World} {p : Nat} {fv : Value} {ms : List FiM} {D : DkD} (h : IsDk w p fv ms D) (ok : DkOk D) :
    Calls Tryz.prog 36 #[.pointer (some ⟨p, 0, none⟩)] w fun e w' => e = .returned (.slice (some ⟨w.heap.size, 0, none⟩) D.files.length D.files.length) ∧ w'.ownsRow w.heap.size 9 1 (.slice (some ⟨w.heap.size, 0, none⟩) D.files.length D.files.length) D.files.length (nmC D.files) ∧ Below w.heap.size w w' := by
  obtain ⟨c0, c1, c2, c3, c4, c5⟩ := h.cells
  have hl := lt_of_block h.row
  obtain ⟨fa, fc, hfv, hfc, hfm⟩ := fv_shape h
  unfold maxLen at hfm
  have hlen := h.len
  have HFV : Hid _ := hfv
  rw [hfv, hlen] at c0
  rw [hlen] at hfc
  have HLN : Hid _ := hlen
  have HH : Hid (IsDk w p fv ms D ∧ DkOk D) := ⟨h, ok⟩
  have hfew := ok.few
  obtain ⟨i0, hi, hz0, hz1, hz2⟩ := info_parts Tryz.infoStrD
  clear h ok hfv hlen c1 c2 c3 c4 c5
  obtain ⟨N, hN⟩ : ∃ N, N = D.files.length := ⟨_, rfl⟩
  rw [← hN] at c0 hfc hfew ⊢
  have HN : Hid _ := hN
  clear hN
  go_enter Tryz.func36, Tryz.ntmps36
  go_upto_region 2 with (at_make; refine wpList_make_full _ rfl _ _ 56 rfl w.heap.size 9 i0 _ 1 Tryz.underlying56 hi hz0 hz1 .i64 .i64 _ _ N rfl rfl (by omega) (by omega) (by rw [hz2]; omega) (by unfold maxLen; omega) (Nat.le_refl _) ?_)
  intro w2 hown hgrow
  have hb2 : Below w.heap.size w w2 := (Below.refl _ _).grown hgrow (Nat.le_refl _) (fun k hk => by simp at hk)
  obtain ⟨cur, hg, hsz⟩ : ∃ cur : Array Value, w2.heap[w.heap.size]? = some (.cells cur 9 (0, 0)) ∧ cur.size = N := by
    obtain ⟨_, ⟨e, _⟩ | ⟨g, cap, cur, e, _, h3, _, _, h6, _⟩⟩ := hown
    · cases e
    · simp at e
      obtain ⟨rfl, rfl⟩ := e
      exact ⟨cur, h3, by simpa using h6⟩
  have d0 := cell_later c0 hb2 (Nat.le_refl _)
  have hl2 : p < w2.heap.size := Nat.lt_of_lt_of_le hl hb2.size
  have H0 : Hid (∃ (cur : Array Value), w2.heap[w.heap.size]? = some (.cells cur 9 (0, 0)) ∧ cur.size = N ∧ cur.toList.take 0 = nmC (D.files.take 0) ∧ Below w.heap.size w w2) := ⟨cur, hg, hsz, rfl, hb2⟩
  clear hown hgrow hg hsz hb2 hi hz0 hz1 hz2 c0
  go_wp2_with fail
  go_loopw [17] (fun vi wr => ∃ k : Nat, k ≤ N ∧ vi = .int .i64 k ∧ Hid (∃ (cur : Array Value), wr.heap[w.heap.size]? = some (.cells cur 9 (0, 0)) ∧ cur.size = N ∧ cur.toList.take k = nmC (D.files.take k) ∧ Below w.heap.size w wr)) (fun vi _ => N - (intOf vi).toNat)
  case atStart => exact ⟨0, Nat.zero_le _, rfl, H0⟩
  case round =>
    obtain ⟨k, hk, rfl, HI⟩ := hrel
    clear H0 d0
    by_cases hlt : k < N
    · have hlt' : k < D.files.length := by rw [← HN.out]; exact hlt
      have hkm : k < ms.length := by rw [HLN.out]; exact hlt'
      obtain ⟨g, cap, hfv1, hp1⟩ := ptr_at HH.out.1 k hkm
      rw [HFV.out] at hfv1
      obtain ⟨rfl, rfl⟩ : fa = some ⟨g, 0, none⟩ ∧ fc = cap := by simpa using hfv1
      obtain ⟨cur, hg, hsz, htk, hbw⟩ := HI.out
      have hf0 := HH.out.1.file k _ _ (List.getElem?_eq_getElem hkm) (List.getElem?_eq_getElem hlt')
      have hp2 := cell_later hp1 hbw (Nat.le_refl _)
      have k0 := cell_later (fl_cells' hf0).1 hbw (Nat.le_refl _)
      have hlm : ms[k].q < wr.heap.size := Nat.lt_of_lt_of_le (lt_of_block hf0.row) hbw.size
      have hfr : wr.frozen? ⟨w.heap.size, k, none⟩ = false := frozen_of_row wr _ _ _ _ hg
      have hck : wr.cell? ⟨w.heap.size, k, none⟩ = some (cur[k]'(by omega)) := by rw [cell_of_row wr _ _ _ _ _ hg, Array.getElem?_eq_getElem (by omega)]
      have hlB := lt_of_block hg
      have HR : Hid (∃ (cur : Array Value), (wr.setCell ⟨w.heap.size, k, none⟩ (.string D.files[k].name)).heap[w.heap.size]? = some (.cells cur 9 (0, 0)) ∧ cur.size = N ∧ cur.toList.take (k + 1) = nmC (D.files.take (k + 1)) ∧ Below w.heap.size w (wr.setCell ⟨w.heap.size, k, none⟩ (.string D.files[k].name))) := by
        refine ⟨cur.setIfInBounds k (.string D.files[k].name), heap_setK _ hg, by simp [hsz], ?_, hbw.setCell (p := ⟨w.heap.size, k, none⟩) (Nat.le_refl _) _⟩
        rw [List.take_add_one (l := D.files), List.getElem?_eq_getElem hlt']
        simp only [nmC, List.map_append]
        have hl' : k < cur.toList.length := by rw [Array.length_toList]; omega
        rw [Array.toList_setIfInBounds, List.take_add_one, List.getElem?_set, if_pos rfl, if_pos hl', List.take_set_of_le (Nat.le_refl k), htk]
        rfl
      generalize D.files[k].name = nm at *
      generalize ms[k].q = mq at *
      generalize cur[k]'(by omega) = cv at *
      clear hf0 hp1 hg hsz htk hbw hfv1 HI hlt' hkm
      go_wp2_with fail
      go_roundw
      case rel => exact ⟨k + 1, by omega, by go_num, HR⟩
      case measure => simp [intOf]; omega
    · obtain rfl : k = N := by omega
      go_wp2_with fail
      go_ret
      obtain ⟨cur, hg, hsz, htk, hbw⟩ := HI.out
      have e : D.files.take k = D.files := List.take_of_length_le (by have := HN.out; omega)
      rw [e] at htk
      refine ⟨rfl, ⟨by simp [nmC, HN.out], .inr ⟨w.heap.size, k, cur, rfl, Nat.le_refl _, hg, Nat.le_refl _, by unfold maxLen; omega, by omega, by rw [Nat.mul_one]; exact htk⟩⟩, hbw⟩

theorem dNames_any {w : World} {p : Nat} {fv : Value} {ms : List FiM} {D : DkD} (h : IsDk w p fv ms D) (ok : DkOk D) :
    Calls Tryz.prog 12 #[.pointer (some ⟨p, 0, none⟩)] w fun e w' => e = .returned (.slice (some ⟨w.heap.size, 0, none⟩) D.files.length D.files.length) ∧ w'.ownsRow w.heap.size 9 1 (.slice (some ⟨w.heap.size, 0, none⟩) D.files.length D.files.length) D.files.length (nmC D.files) ∧ Below w.heap.size w w' := by
  have HC : Hid _ := dkNames_any h ok
  have hl := lt_of_block h.row
  clear h ok
  go_enter Tryz.func12, Tryz.ntmps12
  go_wp2_with fail
  refine Calls.mono HC.out ?_
  rintro e w1 ⟨rfl, h1⟩
  have H1 : Hid _ := h1
  clear h1 HC
  go_wp2_with fail
  go_ret
  exact ⟨rfl, H1.out⟩

theorem dImage_any {w : World} {p : Nat} {fv : Value} {ms : List FiM} {D : DkD} (h : IsDk w p fv ms D) (ok : DkOk D) :
    Calls Tryz.prog 14 #[.pointer (some ⟨p, 0, none⟩)] w fun e w' => e = .returned (.slice (some ⟨w.heap.size, 0, none⟩) D.files.length D.files.length) ∧ (∃ vs, ImgAt w' w.heap.size (.slice (some ⟨w.heap.size, 0, none⟩) D.files.length D.files.length) D.files vs) ∧ Below w.heap.size w w' := by
  have HC : Hid _ := image_any h ok
  have hl := lt_of_block h.row
  clear h ok
  go_enter Tryz.func14, Tryz.ntmps14
  go_wp2_with fail
  refine Calls.mono HC.out ?_
  rintro e w1 ⟨rfl, h1⟩
  have H1 : Hid _ := h1
  clear h1 HC
  go_wp2_with fail
  go_ret
  exact ⟨rfl, H1.out⟩

theorem dUsed_any {w : World} {p : Nat} {fv : Value} {ms : List FiM} {D : DkD} (h : IsDk w p fv ms D) (ok : DkOk D) :
    Calls Tryz.prog 62 #[.pointer (some ⟨p, 0, none⟩)] w fun e w' => e = .returned (.int .i64 (usedD D.files)) ∧ w' = w := by
  have HC : Hid _ := used_any h ok.few (by have := ok.fits; have := ok.r1; omega)
  have hl := lt_of_block h.row
  clear h ok
  go_enter Tryz.func62, Tryz.ntmps62
  go_wp2_with fail
  refine Calls.mono HC.out ?_
  rintro e w1 ⟨rfl, h1⟩
  have H1 : Hid _ := h1
  clear h1 HC
  go_wp2_with fail
  go_ret
  exact ⟨rfl, H1.out⟩

theorem dWrites_any {w : World} {p : Nat} {fv : Value} {ms : List FiM} {D : DkD} (h : IsDk w p fv ms D) :
    Calls Tryz.prog 63 #[.pointer (some ⟨p, 0, none⟩)] w fun e w' => e = .returned (.int .i64 D.writes) ∧ w' = w := by
  obtain ⟨c0, c1, c2, c3, c4, c5⟩ := h.cells
  have hl := lt_of_block h.row
  clear h
  go_enter Tryz.func63, Tryz.ntmps63
  go_wp2_with fail
  go_ret
  exact ⟨rfl, rfl⟩

abbrev newD (room : Int) : DkD := ⟨[], room, true, -1, 0⟩

theorem isDk_new (w : World) (room : Int) : IsDk (w.alloc (.cells (dkQ (.slice none 0 0) room true (-1) 0) 76)) w.heap.size (.slice none 0 0) [] (newD room) :=
  ⟨heap_alloc_new w _, rfl, ⟨by simp [ptrs], .inl ⟨rfl, rfl⟩⟩, fun k m f hm => by simp at hm, by simp [foot, Value.ownBlock]⟩

theorem dkOk_new (room : Int) (h0 : 0 ≤ room) (h1 : room ≤ 16777216) : DkOk (newD room) :=
  ⟨List.Pairwise.nil, by simp, fun f hf => by simp at hf, fun f hf => by simp at hf, h0, h1, by simpa [usedD] using h0, by simp, by simp, by simp⟩

theorem new_yes (room : Int) (w : World) (hq : 0 ≤ room ∧ room ≤ 16777216) : Calls Tryz.prog 29 #[.int .i64 room] w fun e w' => e = .returned (.tuple #[.pointer (some ⟨w.heap.size, 0, none⟩), .int .i64 0]) ∧ w' = w.alloc (.cells (dkQ (.slice none 0 0) room true (-1) 0) 76) := by
  have hd1 : decide (room < 0) = false := decide_eq_false (by omega)
  have hd2 : decide (room > 16777216) = false := decide_eq_false (by omega)
  have HF : Hid (Calls Tryz.prog 5 #[.int .i64 room, .slice none 0 0] w fun e w' => e = .returned (.tuple #[.pointer (some ⟨w.heap.size, 0, none⟩), .int .i64 0]) ∧ w' = w.alloc (.cells (dkQ (.slice none 0 0) room true (-1) 0) 76)) := by
    show Calls _ _ _ _ _
    go_enter Tryz.func5, Tryz.ntmps5
    go_wp2_with fail
    go_loopw [21] (fun vi w2 => vi = .int .i64 0 ∧ w2 = w.alloc (.cells (dkQ (.slice none 0 0) room true (-1) 0) 76)) (fun _ _ => 0)
    case atStart => exact ⟨rfl, rfl⟩
    case round =>
      obtain ⟨rfl, rfl⟩ := hrel
      go_wp2_with fail
      all_goals (go_ret2; exact ⟨rfl, rfl⟩)
  clear hq
  go_enter Tryz.func29, Tryz.ntmps29
  go_wp2_with fail
  refine Calls.mono HF.out ?_
  rintro e w1 ⟨rfl, hw1⟩
  subst w1
  go_wp2_with fail
  go_ret2
  exact ⟨rfl, rfl⟩

theorem new_no (room : Int) (w : World) (hq : ¬ (0 ≤ room ∧ room ≤ 16777216)) : Calls Tryz.prog 29 #[.int .i64 room] w fun e w' => e = .returned (.tuple #[.pointer none, .int .i64 1]) ∧ w' = w := by
  have HF : Hid (Calls Tryz.prog 5 #[.int .i64 room, .slice none 0 0] w fun e w' => e = .returned (.tuple #[.pointer none, .int .i64 1]) ∧ w' = w) := by
    show Calls _ _ _ _ _
    by_cases h0 : room < 0
    · have hd1 : decide (room < 0) = true := decide_eq_true h0
      go_enter Tryz.func5, Tryz.ntmps5
      go_wp2_with fail
      go_ret2
      exact ⟨rfl, rfl⟩
    · have hd1 : decide (room < 0) = false := decide_eq_false h0
      have hd2 : decide (room > 16777216) = true := decide_eq_true (by omega)
      go_enter Tryz.func5, Tryz.ntmps5
      go_wp2_with fail
      go_ret2
      exact ⟨rfl, rfl⟩
  clear hq
  go_enter Tryz.func29, Tryz.ntmps29
  go_wp2_with fail
  refine Calls.mono HF.out ?_
  rintro e w1 ⟨rfl, hw1⟩
  subst w1
  go_wp2_with fail
  go_ret2
  exact ⟨rfl, rfl⟩
end Go.Proofs.YtbdokdhconhifaaGreatDoor

/- A disk's image: its files' bytes lie each in a block of its own. -/
namespace Go.Proofs.YtbdokdhconhifaaGreatDoor
open Go.RowKit Go.Shelf
set_option maxRecDepth 8000

/-- No two of these lists lie in one block. -/
def ApV (vs : List Value) : Prop := vs.Pairwise (fun u v => ∀ k, u.ownBlock = some k → v.ownBlock ≠ some k)

set_option maxHeartbeats 1000000 in
theorem image_ap {w : World} {p : Nat} {fv : Value} {ms : List FiM} {D : DkD} (h : IsDk w p fv ms D) (ok : DkOk D) :
    Calls Tryz.prog 37 #[.pointer (some ⟨p, 0, none⟩)] w fun e w' => e = .returned (.slice (some ⟨w.heap.size, 0, none⟩) D.files.length D.files.length) ∧ (∃ vs, ImgAt w' w.heap.size (.slice (some ⟨w.heap.size, 0, none⟩) D.files.length D.files.length) D.files vs ∧ ApV vs) ∧ Below w.heap.size w w' := by
  obtain ⟨c0, c1, c2, c3, c4, c5⟩ := h.cells
  have hl := lt_of_block h.row
  obtain ⟨fa, fc, hfv, hfc, hfm⟩ := fv_shape h
  unfold maxLen at hfm
  have hlen := h.len
  have HFV : Hid _ := hfv
  rw [hfv, hlen] at c0
  rw [hlen] at hfc
  have HLN : Hid _ := hlen
  have HH : Hid (IsDk w p fv ms D ∧ DkOk D) := ⟨h, ok⟩
  have hfew := ok.few
  obtain ⟨i0, hi, hz0, hz1, hz2⟩ := info_parts Tryz.infoFile
  clear h ok hfv hlen c1 c2 c3 c4 c5
  obtain ⟨N, hN⟩ : ∃ N, N = D.files.length := ⟨_, rfl⟩
  rw [← hN] at c0 hfc hfew ⊢
  have HN : Hid _ := hN
  clear hN
  go_enter Tryz.func37, Tryz.ntmps37
  go_upto_region 2 with (at_make; refine wpList_make_full _ rfl _ _ 22 rfl w.heap.size 71 i0 _ 3 Tryz.underlying22 hi hz0 hz1 .i64 .i64 _ _ N rfl rfl (by omega) (by omega) (by rw [hz2]; omega) (by unfold maxLen; omega) (Nat.le_refl _) ?_)
  intro w2 hown hgrow
  have hb2 : Below w.heap.size w w2 := (Below.refl _ _).grown hgrow (Nat.le_refl _) (fun k hk => by simp at hk)
  obtain ⟨cur, hg, hsz⟩ : ∃ cur : Array Value, w2.heap[w.heap.size]? = some (.cells cur 71 (0, 0)) ∧ cur.size = N * 3 := by
    obtain ⟨_, ⟨e, _⟩ | ⟨g, cap, cur, e, _, h3, _, _, h6, _⟩⟩ := hown
    · cases e
    · simp at e
      obtain ⟨rfl, rfl⟩ := e
      exact ⟨cur, h3, h6⟩
  have d0 := cell_later c0 hb2 (Nat.le_refl _)
  have hl2 : p < w2.heap.size := Nat.lt_of_lt_of_le hl hb2.size
  have H0 : Hid (∃ (vs : List Value) (cur : Array Value), (vs.length = 0 ∧ ApV vs) ∧ w2.heap[w.heap.size]? = some (.cells cur 71 (0, 0)) ∧ cur.size = N * 3 ∧ cur.toList.take (0 * 3) = imgC (D.files.take 0) vs ∧ (∀ (i : Nat) u f, vs[i]? = some u → D.files[i]? = some f → Owns w2 w.heap.size u f.bytes ∧ u.ownBlock ≠ some w.heap.size) ∧ Below w.heap.size w w2) := ⟨[], cur, ⟨rfl, List.Pairwise.nil⟩, hg, hsz, rfl, fun i u f h => by simp at h, hb2⟩
  clear hown hgrow hg hsz hb2 hi hz0 hz1 hz2 c0
  go_wp2_with fail
  go_loopw [17] (fun vi wr => ∃ k : Nat, k ≤ N ∧ vi = .int .i64 k ∧ Hid (∃ (vs : List Value) (cur : Array Value), (vs.length = k ∧ ApV vs) ∧ wr.heap[w.heap.size]? = some (.cells cur 71 (0, 0)) ∧ cur.size = N * 3 ∧ cur.toList.take (k * 3) = imgC (D.files.take k) vs ∧ (∀ (i : Nat) u f, vs[i]? = some u → D.files[i]? = some f → Owns wr w.heap.size u f.bytes ∧ u.ownBlock ≠ some w.heap.size) ∧ Below w.heap.size w wr)) (fun vi _ => N - (intOf vi).toNat)
  case atStart => exact ⟨0, Nat.zero_le _, rfl, H0⟩
  case round =>
    obtain ⟨k, hk, rfl, HI⟩ := hrel
    clear H0 d0
    by_cases hlt : k < N
    · have hlt' : k < D.files.length := by rw [← HN.out]; exact hlt
      have hkm : k < ms.length := by rw [HLN.out]; exact hlt'
      obtain ⟨g, cap, hfv1, hp1⟩ := ptr_at HH.out.1 k hkm
      rw [HFV.out] at hfv1
      obtain ⟨rfl, rfl⟩ : fa = some ⟨g, 0, none⟩ ∧ fc = cap := by simpa using hfv1
      have hbw : Below w.heap.size w wr := by obtain ⟨_, _, _, _, _, _, _, h⟩ := HI.out; exact h
      have hf0 := HH.out.1.file k _ _ (List.getElem?_eq_getElem hkm) (List.getElem?_eq_getElem hlt')
      have hf1 : FileAt wr ms[k] D.files[k] := hf0.kept (Below.kept hbw) (fun e => by have := lt_of_block hf0.row; omega) (fun j e e' => by have := rows_ltK hf0.own e; omega)
      have hp2 := cell_later hp1 hbw (Nat.le_refl _)
      obtain ⟨k0, k1, k2⟩ := fl_cells' hf1
      have hlm := lt_of_block hf1.row
      have hsm : D.files[k].bytes.length ≤ 1000000000000 := by
        have := len_used (List.getElem_mem hlt')
        have := HH.out.2.fits
        have := HH.out.2.r1
        omega
      have hmB : ms[k].q ≠ w.heap.size := fun e => by have := lt_of_block hf0.row; omega
      obtain ⟨mq, hmq⟩ : ∃ mq, mq = ms[k].q := ⟨_, rfl⟩
      obtain ⟨nm, hnm⟩ : ∃ nm, nm = D.files[k].name := ⟨_, rfl⟩
      obtain ⟨du, hdu⟩ : ∃ du, du = D.files[k].dur := ⟨_, rfl⟩
      obtain ⟨bl, hbl⟩ : ∃ bl, bl = D.files[k].bytes.length := ⟨_, rfl⟩
      have HCO : Hid (∀ V : World, Below wr.heap.size wr V → V.heap.size = wr.heap.size → Calls Tryz.prog 35 #[.pointer (some ⟨mq, 0, none⟩)] V fun e w' => e = .returned (.slice (some ⟨wr.heap.size, 0, none⟩) bl bl) ∧ Owns w' wr.heap.size (.slice (some ⟨wr.heap.size, 0, none⟩) bl bl) D.files[k].bytes ∧ Below V.heap.size V w') := fun V hV hs => by
        have h := copied_any (hf1.kept (Below.kept hV) (fun e => by omega) (fun j e e' => by have := rows_ltK hf1.own e; omega)) hsm
        rw [hmq, hbl]
        rw [hs] at h
        rw [hs]
        exact h
      have HTH : Hid (∀ V : World, Below wr.heap.size wr.drew V → V.there w.heap.size (k * 3) 3) := fun V hV j hj => by
        obtain ⟨vs, cur, _, hg, hsz, _⟩ := HI.out
        have hg' : V.heap[w.heap.size]? = some (.cells cur 71 (0, 0)) := (Below.kept hV).heap hg (fun e => by have := lt_of_block hg; have : w.heap.size < wr.heap.size := this; omega)
        refine ⟨?_, frozen_of_row V _ _ _ _ hg'⟩
        rw [cell_of_row V _ _ _ _ _ hg', Array.getElem?_eq_getElem (by omega)]
        rfl
      have HST : Hid (∀ V : World, Below wr.heap.size wr.drew V → (V.setCells w.heap.size (k * 3) [.string nm, .slice (some ⟨wr.heap.size, 0, none⟩) bl bl, .int .i64 du]).cell? ⟨mq, 0, none⟩ = some (.string nm) ∧ (V.setCells w.heap.size (k * 3) [.string nm, .slice (some ⟨wr.heap.size, 0, none⟩) bl bl, .int .i64 du]).cell? ⟨mq, 2, none⟩ = some (.int .i64 du)) := fun V hV => by
        rw [World.cell?_setCells_out _ _ _ _ _ (fun e _ => absurd (e.symm.trans hmq).symm hmB), World.cell?_setCells_out _ _ _ _ _ (fun e _ => absurd (e.symm.trans hmq).symm hmB)]
        rw [hmq, hnm, hdu]
        exact ⟨cell_later (w := wr.drew) k0 hV (Nat.le_refl _), cell_later (w := wr.drew) k2 hV (Nat.le_refl _)⟩
      have HQ : Hid (_ ∧ _ ∧ _ ∧ _) := And.intro hmq (And.intro hnm (And.intro hdu hbl))
      rw [← hmq] at hp2 k0 k2 hlm
      rw [← hnm] at k0
      rw [← hdu] at k2
      have HKK : Hid (k < D.files.length ∧ Below w.heap.size w wr) := ⟨hlt', hbw⟩
      clear hmq hnm hdu hbl hf0 hf1 hp1 k1 hsm hmB hfv1 hbw
      go_wp2_with fail
      refine wp_region_held_drew (S := fun w' => w'.cell? ⟨mq, 0, none⟩ = some (.string nm) ∧ w'.cell? ⟨mq, 2, none⟩ = some (.int .i64 du)) (by kernel_rfl) ?_ (fun hHeld => ?_)
      · exact ⟨k0, k2⟩
      refine wpAnyH_take (i := 0) (oi := { dst := some 22, op := Op.move (Operand.tmp 3), type := 22, pos := "shelf.go:108", after := #[], guard := none }) (v := ?_) rfl (by kernel_rfl) (by kernel_rfl) (by kernel_rfl) (fun _ _ _ h => h) (Or.inl ⟨by rfl, ?_⟩) (by assumption) ?_
      rotate_left
      · (intro w hSw; (try dsimp only at hSw); go_simp) <;> with_reducible rfl
      try simp only [Act.put, List.setIfInBounds_toArray, List.set_cons_zero, List.set_cons_succ]
      refine wpAnyH_take (i := 1) (oi := { dst := some 23, op := Op.move (Operand.tmp 4), type := 3, pos := "shelf.go:108", after := #[], guard := none }) (v := ?_) rfl (by kernel_rfl) (by kernel_rfl) (by kernel_rfl) (fun _ _ _ h => h) (Or.inl ⟨by rfl, ?_⟩) (by assumption) ?_
      rotate_left
      · (intro w hSw; (try dsimp only at hSw); go_simp) <;> with_reducible rfl
      try simp only [Act.put, List.setIfInBounds_toArray, List.set_cons_zero, List.set_cons_succ]
      refine wpAnyH_take (i := 2) (oi := { dst := some 24, op := Op.move (Operand.tmp 5), type := 90, pos := "shelf.go:108", after := #[], guard := none }) (v := ?_) rfl (by kernel_rfl) (by kernel_rfl) (by kernel_rfl) (fun _ _ _ h => h) (Or.inl ⟨by rfl, ?_⟩) (by assumption) ?_
      rotate_left
      · (intro w hSw; (try dsimp only at hSw); go_simp) <;> with_reducible rfl
      try simp only [Act.put, List.setIfInBounds_toArray, List.set_cons_zero, List.set_cons_succ]
      refine wpAnyH_take (i := 3) (oi := { dst := some 25, op := Op.nilCheck (Operand.tmp 24), type := 0, pos := "shelf.go:108", after := #[{ on := 2, ground := Ground.data }], guard := none }) (v := ?_) rfl (by kernel_rfl) (by kernel_rfl) (by kernel_rfl) (fun _ _ _ h => h) (Or.inl ⟨by rfl, ?_⟩) (by assumption) ?_
      rotate_left
      · (intro w hSw; (try dsimp only at hSw); go_simp) <;> with_reducible rfl
      try simp only [Act.put, List.setIfInBounds_toArray, List.set_cons_zero, List.set_cons_succ]
      refine wpAnyH_take (i := 4) (oi := { dst := some 26, op := Op.fieldAddr 122 (Operand.tmp 25) 0, type := 0, pos := "shelf.go:108", after := #[{ on := 3, ground := Ground.data }], guard := none }) (v := ?_) rfl (by kernel_rfl) (by kernel_rfl) (by kernel_rfl) (fun _ _ _ h => h) (Or.inl ⟨by rfl, ?_⟩) (by assumption) ?_
      rotate_left
      · (intro w hSw; (try dsimp only at hSw); go_simp) <;> with_reducible rfl
      try simp only [Act.put, List.setIfInBounds_toArray, List.set_cons_zero, List.set_cons_succ]
      refine wpAnyH_take (i := 5) (oi := { dst := some 27, op := Op.load 9 (Operand.tmp 26), type := 9, pos := "shelf.go:108", after := #[{ on := 4, ground := Ground.data }], guard := none }) (v := ?_) rfl (by kernel_rfl) (by kernel_rfl) (by kernel_rfl) (fun _ _ _ h => h) (Or.inl ⟨by rfl, ?_⟩) (by assumption) ?_
      rotate_left
      · (intro w hSw; (try dsimp only at hSw); go_simp) <;> with_reducible rfl
      try simp only [Act.put, List.setIfInBounds_toArray, List.set_cons_zero, List.set_cons_succ]
      refine wpAnyH_take (i := 6) (oi := { dst := some 28, op := Op.move (Operand.tmp 5), type := 90, pos := "shelf.go:108", after := #[], guard := none }) (v := ?_) rfl (by kernel_rfl) (by kernel_rfl) (by kernel_rfl) (fun _ _ _ h => h) (Or.inl ⟨by rfl, ?_⟩) (by assumption) ?_
      rotate_left
      · (intro w hSw; (try dsimp only at hSw); go_simp) <;> with_reducible rfl
      try simp only [Act.put, List.setIfInBounds_toArray, List.set_cons_zero, List.set_cons_succ]
      refine wpAnyH_take (i := 8) (oi := { dst := some 30, op := Op.move (Operand.tmp 5), type := 90, pos := "shelf.go:108", after := #[], guard := none }) (v := ?_) rfl (by kernel_rfl) (by kernel_rfl) (by kernel_rfl) (fun _ _ _ h => h) (Or.inl ⟨by rfl, ?_⟩) (by assumption) ?_
      rotate_left
      · (intro w hSw; (try dsimp only at hSw); go_simp) <;> with_reducible rfl
      try simp only [Act.put, List.setIfInBounds_toArray, List.set_cons_zero, List.set_cons_succ]
      refine wpAnyH_take (i := 9) (oi := { dst := some 31, op := Op.nilCheck (Operand.tmp 30), type := 0, pos := "shelf.go:108", after := #[{ on := 8, ground := Ground.data }], guard := none }) (v := ?_) rfl (by kernel_rfl) (by kernel_rfl) (by kernel_rfl) (fun _ _ _ h => h) (Or.inl ⟨by rfl, ?_⟩) (by assumption) ?_
      rotate_left
      · (intro w hSw; (try dsimp only at hSw); go_simp) <;> with_reducible rfl
      try simp only [Act.put, List.setIfInBounds_toArray, List.set_cons_zero, List.set_cons_succ]
      refine wpAnyH_take (i := 10) (oi := { dst := some 32, op := Op.fieldAddr 122 (Operand.tmp 31) 2, type := 0, pos := "shelf.go:108", after := #[{ on := 9, ground := Ground.data }], guard := none }) (v := ?_) rfl (by kernel_rfl) (by kernel_rfl) (by kernel_rfl) (fun _ _ _ h => h) (Or.inl ⟨by rfl, ?_⟩) (by assumption) ?_
      rotate_left
      · (intro w hSw; (try dsimp only at hSw); go_simp) <;> with_reducible rfl
      try simp only [Act.put, List.setIfInBounds_toArray, List.set_cons_zero, List.set_cons_succ]
      refine wpAnyH_take (i := 11) (oi := { dst := some 33, op := Op.load 3 (Operand.tmp 32), type := 3, pos := "shelf.go:108", after := #[{ on := 10, ground := Ground.data }], guard := none }) (v := ?_) rfl (by kernel_rfl) (by kernel_rfl) (by kernel_rfl) (fun _ _ _ h => h) (Or.inl ⟨by rfl, ?_⟩) (by assumption) ?_
      rotate_left
      · (intro w hSw; (try dsimp only at hSw); go_simp) <;> with_reducible rfl
      try simp only [Act.put, List.setIfInBounds_toArray, List.set_cons_zero, List.set_cons_succ]
      refine wpAnyH_ready (rs := [7]) (by kernel_rfl) (by simp) ?_
      refine AllReadyH.cons (o := { dst := some 29, op := Op.call { callee := Callee.value (Operand.func 35), args := #[Operand.tmp 28], argTypes := #[90] }, type := 58, pos := "shelf.go:108", after := #[{ on := 6, ground := Ground.data }], guard := none }) rfl (fun K hK => ?_) AllReadyH.nil
      go_simp
      refine Calls.mono (HCO.out _ (below_drewN (Below.refl _ _) 1) rfl) ?_
      rintro e w5 ⟨rfl, ho5, hb5⟩
      have H5 : Hid (_ ∧ _) := ⟨ho5, hb5⟩
      have x0 := cell_later (w := wr.drew) k0 hb5 (Nat.le_refl _)
      have x2 := cell_later (w := wr.drew) k2 hb5 (Nat.le_refl _)
      clear ho5 hb5
      refine hK.out _ _ ⟨x0, x2⟩ (fun hHeld => ?_)
      clear hK K
      refine wpAnyH_take (i := 12) (oi := { dst := some 34, op := Op.build 71 #[(0, Operand.tmp 27), (1, Operand.tmp 29), (2, Operand.tmp 33)], type := 71, pos := "shelf.go:108", after := #[{ on := 5, ground := Ground.data }, { on := 7, ground := Ground.data }, { on := 11, ground := Ground.data }], guard := none }) (v := ?_) rfl (by kernel_rfl) (by kernel_rfl) (by kernel_rfl) (fun _ _ _ h => h) (Or.inl ⟨by rfl, ?_⟩) (by assumption) ?_
      rotate_left
      · (intro w hSw; (try dsimp only at hSw); go_simp) <;> with_reducible rfl
      try simp only [Act.put, List.setIfInBounds_toArray, List.set_cons_zero, List.set_cons_succ]
      refine wpAnyH_take (i := 13) (oi := { dst := some 35, op := Op.indexAddr 22 (Operand.tmp 22) (Operand.tmp 23), type := 0, pos := "shelf.go:108", after := #[{ on := 0, ground := Ground.data }, { on := 1, ground := Ground.data }, { on := 0, ground := Ground.phase }, { on := 1, ground := Ground.phase }, { on := 2, ground := Ground.phase }, { on := 3, ground := Ground.phase }, { on := 4, ground := Ground.phase }, { on := 5, ground := Ground.phase }, { on := 6, ground := Ground.phase }, { on := 7, ground := Ground.phase }, { on := 8, ground := Ground.phase }, { on := 9, ground := Ground.phase }, { on := 10, ground := Ground.phase }, { on := 11, ground := Ground.phase }, { on := 12, ground := Ground.phase }], guard := none }) (v := ?_) rfl (by kernel_rfl) (by kernel_rfl) (by kernel_rfl) (fun _ _ _ h => h) (Or.inl ⟨by rfl, ?_⟩) (by assumption) ?_
      rotate_left
      · (intro w hSw; (try dsimp only at hSw); go_simp) <;> with_reducible rfl
      try simp only [Act.put, List.setIfInBounds_toArray, List.set_cons_zero, List.set_cons_succ]
      refine wpAnyH_ready (rs := [14]) (by kernel_rfl) (by simp) ?_
      refine AllReadyH.cons (o := { dst := none, op := Op.store 71 (Operand.tmp 35) (Operand.tmp 34), type := 0, pos := "shelf.go:108", after := #[{ on := 13, ground := Ground.data }, { on := 12, ground := Ground.data }, { on := 7, ground := Ground.chain }, { on := 0, ground := Ground.phase }, { on := 1, ground := Ground.phase }, { on := 2, ground := Ground.phase }, { on := 3, ground := Ground.phase }, { on := 4, ground := Ground.phase }, { on := 5, ground := Ground.phase }, { on := 6, ground := Ground.phase }, { on := 7, ground := Ground.phase }, { on := 8, ground := Ground.phase }, { on := 9, ground := Ground.phase }, { on := 10, ground := Ground.phase }, { on := 11, ground := Ground.phase }, { on := 12, ground := Ground.phase }], guard := none }) rfl (fun K hK => ?_) AllReadyH.nil
      rw [if_pos (by rfl)]
      refine wp_store_mid 71 _ _ rfl w.heap.size (k * 3) #[.string nm, .slice (some ⟨wr.heap.size, 0, none⟩) bl bl, .int .i64 du] rfl rfl (HTH.out w5 H5.out.2) Tryz.fileSz (by simp [Value.oneCell']) ?_
      have y0 := (HST.out w5 H5.out.2).1
      have y2 := (HST.out w5 H5.out.2).2
      refine hK.out _ _ ⟨y0, y2⟩ (fun hHeld => ?_)
      clear hK K
      refine wpAnyH_done (by kernel_rfl) ?_ _
      have HR : Hid (∃ (vs : List Value) (cur : Array Value), (vs.length = k + 1 ∧ ApV vs) ∧ (w5.setCells w.heap.size (k * 3) [.string nm, .slice (some ⟨wr.heap.size, 0, none⟩) bl bl, .int .i64 du]).heap[w.heap.size]? = some (.cells cur 71 (0, 0)) ∧ cur.size = N * 3 ∧ cur.toList.take ((k + 1) * 3) = imgC (D.files.take (k + 1)) vs ∧ (∀ (i : Nat) u f, vs[i]? = some u → D.files[i]? = some f → Owns (w5.setCells w.heap.size (k * 3) [.string nm, .slice (some ⟨wr.heap.size, 0, none⟩) bl bl, .int .i64 du]) w.heap.size u f.bytes ∧ u.ownBlock ≠ some w.heap.size) ∧ Below w.heap.size w (w5.setCells w.heap.size (k * 3) [.string nm, .slice (some ⟨wr.heap.size, 0, none⟩) bl bl, .int .i64 du])) := by
        obtain ⟨vs, cur, ⟨hvl, hAp⟩, hg, hsz, htk, hbs, hbw⟩ := HI.out
        obtain ⟨ho5, hb5⟩ := H5.out
        obtain ⟨_, hnm, hdu, hbl⟩ := HQ.out
        have hlB : w.heap.size < wr.heap.size := lt_of_block hg
        have hg5 : w5.heap[w.heap.size]? = some (.cells cur 71 (0, 0)) := (Below.kept hb5).heap hg (fun e => by have : wr.heap.size ≤ w.heap.size := e; omega)
        have hk5 : Kept w5 (w5.setCells w.heap.size (k * 3) [.string nm, .slice (some ⟨wr.heap.size, 0, none⟩) bl bl, .int .i64 du]) (fun j => j = w.heap.size) := Kept.setCell (Kept.setCell (Kept.setCell (Kept.refl _ (fun j => j = w.heap.size)) ⟨w.heap.size, k * 3, none⟩ _ (fun _ => rfl)) ⟨w.heap.size, k * 3 + 1, none⟩ _ (fun _ => rfl)) ⟨w.heap.size, k * 3 + 1 + 1, none⟩ _ (fun _ => rfl)
        have hl5 : Below wr.heap.size wr w5 := Below.step (below_drewN (Below.refl _ _) 1) hb5
        refine ⟨vs ++ [.slice (some ⟨wr.heap.size, 0, none⟩) bl bl], ((cur.setIfInBounds (k * 3) (.string nm)).setIfInBounds (k * 3 + 1) (.slice (some ⟨wr.heap.size, 0, none⟩) bl bl)).setIfInBounds (k * 3 + 1 + 1) (.int .i64 du), ⟨by simp [hvl], List.pairwise_append.2 ⟨hAp, List.pairwise_singleton _ _, fun u hu v hv j e e' => by
          rw [List.mem_singleton.1 hv] at e'
          have h1 : wr.heap.size = j := by simpa [Value.ownBlock] using e'
          obtain ⟨i, hi, rfl⟩ := List.getElem_of_mem hu
          have q1 := (hbs i _ _ (List.getElem?_eq_getElem hi) (List.getElem?_eq_getElem (by have := HKK.out.1; omega))).1
          have := rows_ltK q1 e
          omega⟩⟩, heap_setK _ (heap_setK _ (heap_setK _ hg5)), by simp [hsz], ?_, fun i u f hu hf => ?_, (Below.step hbw hl5).trans (hk5.below (Nat.le_trans hbw.size hl5.size) (fun j e => by omega))⟩
        · have e1 : D.files.take (k + 1) = D.files.take k ++ [D.files[k]'HKK.out.1] := by rw [List.take_add_one, List.getElem?_eq_getElem HKK.out.1]; rfl
          rw [e1, imgC_snoc _ _ (by simp [hvl]; have := HKK.out.1; omega), ← htk, hnm, hdu]
          simp only [Array.toList_setIfInBounds]
          rw [show (k + 1) * 3 = k * 3 + 3 by omega, set3_take _ _ _ _ _ (by simp [hsz]; omega)]
        · by_cases hi : i < k
          · rw [List.getElem?_append_left (by omega)] at hu
            obtain ⟨q1, q2⟩ := hbs i u f hu hf
            have q3 : Owns w5 w.heap.size u f.bytes := q1.kept (Below.kept hl5) (fun j e e' => by have := rows_ltK q1 e; omega)
            exact ⟨q3.kept hk5 (fun j e e' => q2 (by rw [e, e'])), q2⟩
          · rw [List.getElem?_append_right (by omega), hvl] at hu
            have hik : i = k := by
              by_cases h : i - k = 0
              · omega
              · rw [List.getElem?_eq_none (by simp; omega)] at hu; cases hu
            subst hik
            rw [Nat.sub_self] at hu
            cases hu
            rw [List.getElem?_eq_getElem HKK.out.1] at hf
            cases hf
            have hne : ∀ j, (Value.slice (some ⟨wr.heap.size, 0, none⟩) bl bl).ownBlock = some j → j ≠ w.heap.size := fun j e e' => by
              have h1 : wr.heap.size = j := by simpa [Value.ownBlock] using e
              omega
            exact ⟨(owns_mono ho5 (by omega)).kept hk5 (fun j e e' => hne j e e'), fun e => hne _ e rfl⟩
      clear HI HTH HST HCO HQ HKK H5 x0 x2 y0 y2 k0 k2 hHeld
      go_wp2_with fail
      go_roundw
      case rel => exact ⟨k + 1, by omega, by go_num, HR⟩
      case measure => simp [intOf]; omega
    · obtain rfl : k = N := by omega
      go_wp2_with fail
      go_ret
      obtain ⟨vs, cur, ⟨hvl, hAp⟩, hg, hsz, htk, hbs, hbw⟩ := HI.out
      have e : D.files.take k = D.files := List.take_of_length_le (by have := HN.out; omega)
      rw [e] at htk
      refine ⟨rfl, ⟨vs, ?_, hAp⟩, hbw⟩
      refine ⟨by rw [hvl]; exact HN.out, ⟨?_, .inr ⟨w.heap.size, k, cur, by rw [← HN.out], Nat.le_refl _, hg, by rw [← HN.out]; exact Nat.le_refl _, by unfold maxLen; omega, hsz, by rw [← HN.out]; exact htk⟩⟩, fun i u f hu hf => (hbs i u f hu hf).1⟩
      exact imgC_len _ _ (by rw [hvl]; exact HN.out)
theorem dImage_ap {w : World} {p : Nat} {fv : Value} {ms : List FiM} {D : DkD} (h : IsDk w p fv ms D) (ok : DkOk D) :
    Calls Tryz.prog 14 #[.pointer (some ⟨p, 0, none⟩)] w fun e w' => e = .returned (.slice (some ⟨w.heap.size, 0, none⟩) D.files.length D.files.length) ∧ (∃ vs, ImgAt w' w.heap.size (.slice (some ⟨w.heap.size, 0, none⟩) D.files.length D.files.length) D.files vs ∧ ApV vs) ∧ Below w.heap.size w w' := by
  have HC : Hid _ := image_ap h ok
  have hl := lt_of_block h.row
  clear h ok
  go_enter Tryz.func14, Tryz.ntmps14
  go_wp2_with fail
  refine Calls.mono HC.out ?_
  rintro e w1 ⟨rfl, h1⟩
  have H1 : Hid _ := h1
  clear h1 HC
  go_wp2_with fail
  go_ret
  exact ⟨rfl, H1.out⟩

end Go.Proofs.YtbdokdhconhifaaGreatDoor
