/- What a disk tells: Names, Used, Writes, Image. -/
import Derived.Test.YtjdigknhiopdeaaGreatDkMJ
namespace Go.Proofs.YtjdigknhiopdeaaGreat
open Go.RowKit Go.Shelf
set_option maxRecDepth 8000

abbrev nmC (fs : List FiD) : List Value := fs.map fun f => .string f.name

set_option maxHeartbeats 1000000 in
theorem dkNames_any {w : World} {p : Nat} {fv : Value} {ms : List FiM} {D : DkD} (h : IsDk w p fv ms D) (ok : DkOk D) :
    Calls Tryz.prog 87 #[.pointer (some ⟨p, 0, none⟩)] w fun e w' => e = .returned (.slice (some ⟨w.heap.size, 0, none⟩) D.files.length D.files.length) ∧ w'.ownsRow w.heap.size 9 1 (.slice (some ⟨w.heap.size, 0, none⟩) D.files.length D.files.length) D.files.length (nmC D.files) ∧ Below w.heap.size w w' := by
  obtain ⟨c0, c1, c2, c3, c4, c5⟩ := h.cells
  have hl := lt_of_block h.row
  obtain ⟨fa, fc, hfv, hfc, hfm⟩ := fv_shape h
  unfold maxLen at hfm
  have hlen := h.len
  have HFV : Hid _ := hfv
  rw [hfv, hlen] at c0
  rw [hlen] at hfc
  have HLN : Hid _ := hlen
  have HH : Hid (IsDk w p fv ms D ∧ DkOk D) := ⟨h, ok⟩
  have hfew := ok.few
  obtain ⟨i0, hi, hz0, hz1, hz2⟩ := info_parts Tryz.infoStrD
  clear h ok hfv hlen c1 c2 c3 c4 c5
  obtain ⟨N, hN⟩ : ∃ N, N = D.files.length := ⟨_, rfl⟩
  rw [← hN] at c0 hfc hfew ⊢
  have HN : Hid _ := hN
  clear hN
  go_enter Tryz.func87, Tryz.ntmps87
  go_upto_region 2 with (at_make; refine wpList_make_full _ rfl _ _ 101 rfl w.heap.size 9 i0 _ 1 Tryz.underlying101 hi hz0 hz1 .i64 .i64 _ _ N rfl rfl (by omega) (by omega) (by rw [hz2]; omega) (by unfold maxLen; omega) (Nat.le_refl _) ?_)
  intro w2 hown hgrow
  have hb2 : Below w.heap.size w w2 := (Below.refl _ _).grown hgrow (Nat.le_refl _) (fun k hk => by simp at hk)
  obtain ⟨cur, hg, hsz⟩ : ∃ cur : Array Value, w2.heap[w.heap.size]? = some (.cells cur 9 (0, 0)) ∧ cur.size = N := by
    obtain ⟨_, ⟨e, _⟩ | ⟨g, cap, cur, e, _, h3, _, _, h6, _⟩⟩ := hown
    · cases e
    · simp at e
      obtain ⟨rfl, rfl⟩ := e
      exact ⟨cur, h3, by simpa using h6⟩
  have d0 := cell_later c0 hb2 (Nat.le_refl _)
  have hl2 : p < w2.heap.size := Nat.lt_of_lt_of_le hl hb2.size
  have H0 : Hid (∃ (cur : Array Value), w2.heap[w.heap.size]? = some (.cells cur 9 (0, 0)) ∧ cur.size = N ∧ cur.toList.take 0 = nmC (D.files.take 0) ∧ Below w.heap.size w w2) := ⟨cur, hg, hsz, rfl, hb2⟩
  clear hown hgrow hg hsz hb2 hi hz0 hz1 hz2 c0
  go_wp2_with fail
  go_loopw [17] (fun vi wr => ∃ k : Nat, k ≤ N ∧ vi = .int .i64 k ∧ Hid (∃ (cur : Array Value), wr.heap[w.heap.size]? = some (.cells cur 9 (0, 0)) ∧ cur.size = N ∧ cur.toList.take k = nmC (D.files.take k) ∧ Below w.heap.size w wr)) (fun vi _ => N - (intOf vi).toNat)
  case atStart => exact ⟨0, Nat.zero_le _, rfl, H0⟩
  case round =>
    obtain ⟨k, hk, rfl, HI⟩ := hrel
    clear H0 d0
    by_cases hlt : k < N
    · have hlt' : k < D.files.length := by rw [← HN.out]; exact hlt
      have hkm : k < ms.length := by rw [HLN.out]; exact hlt'
      obtain ⟨g, cap, hfv1, hp1⟩ := ptr_at HH.out.1 k hkm
      rw [HFV.out] at hfv1
      obtain ⟨rfl, rfl⟩ : fa = some ⟨g, 0, none⟩ ∧ fc = cap := by simpa using hfv1
      obtain ⟨cur, hg, hsz, htk, hbw⟩ := HI.out
      have hf0 := HH.out.1.file k _ _ (List.getElem?_eq_getElem hkm) (List.getElem?_eq_getElem hlt')
      have hp2 := cell_later hp1 hbw (Nat.le_refl _)
      have k0 := cell_later (fl_cells' hf0).1 hbw (Nat.le_refl _)
      have hlm : ms[k].q < wr.heap.size := Nat.lt_of_lt_of_le (lt_of_block hf0.row) hbw.size
      have hfr : wr.frozen? ⟨w.heap.size, k, none⟩ = false := frozen_of_row wr _ _ _ _ hg
      have hck : wr.cell? ⟨w.heap.size, k, none⟩ = some (cur[k]'(by omega)) := by rw [cell_of_row wr _ _ _ _ _ hg, Array.getElem?_eq_getElem (by omega)]
      have hlB := lt_of_block hg
      have HR : Hid (∃ (cur : Array Value), (wr.setCell ⟨w.heap.size, k, none⟩ (.string D.files[k].name)).heap[w.heap.size]? = some (.cells cur 9 (0, 0)) ∧ cur.size = N ∧ cur.toList.take (k + 1) = nmC (D.files.take (k + 1)) ∧ Below w.heap.size w (wr.setCell ⟨w.heap.size, k, none⟩ (.string D.files[k].name))) := by
        refine ⟨cur.setIfInBounds k (.string D.files[k].name), heap_setK _ hg, by simp [hsz], ?_, hbw.setCell (p := ⟨w.heap.size, k, none⟩) (Nat.le_refl _) _⟩
        rw [List.take_add_one (l := D.files), List.getElem?_eq_getElem hlt']
        simp only [nmC, List.map_append]
        have hl' : k < cur.toList.length := by rw [Array.length_toList]; omega
        rw [Array.toList_setIfInBounds, List.take_add_one, List.getElem?_set, if_pos rfl, if_pos hl', List.take_set_of_le (Nat.le_refl k), htk]
        rfl
      generalize D.files[k].name = nm at *
      generalize ms[k].q = mq at *
      generalize cur[k]'(by omega) = cv at *
      clear hf0 hp1 hg hsz htk hbw hfv1 HI hlt' hkm
      go_wp2_with fail
      go_roundw
      case rel => exact ⟨k + 1, by omega, by go_num, HR⟩
      case measure => simp [intOf]; omega
    · obtain rfl : k = N := by omega
      go_wp2_with fail
      go_ret
      obtain ⟨cur, hg, hsz, htk, hbw⟩ := HI.out
      have e : D.files.take k = D.files := List.take_of_length_le (by have := HN.out; omega)
      rw [e] at htk
      refine ⟨rfl, ⟨by simp [nmC, HN.out], .inr ⟨w.heap.size, k, cur, rfl, Nat.le_refl _, hg, Nat.le_refl _, by unfold maxLen; omega, by omega, by rw [Nat.mul_one]; exact htk⟩⟩, hbw⟩

theorem dNames_any {w : World} {p : Nat} {fv : Value} {ms : List FiM} {D : DkD} (h : IsDk w p fv ms D) (ok : DkOk D) :
    Calls Tryz.prog 63 #[.pointer (some ⟨p, 0, none⟩)] w fun e w' => e = .returned (.slice (some ⟨w.heap.size, 0, none⟩) D.files.length D.files.length) ∧ w'.ownsRow w.heap.size 9 1 (.slice (some ⟨w.heap.size, 0, none⟩) D.files.length D.files.length) D.files.length (nmC D.files) ∧ Below w.heap.size w w' := by
  have HC : Hid _ := dkNames_any h ok
  have hl := lt_of_block h.row
  clear h ok
  go_enter Tryz.func63, Tryz.ntmps63
  go_wp2_with fail
  refine Calls.mono HC.out ?_
  rintro e w1 ⟨rfl, h1⟩
  have H1 : Hid _ := h1
  clear h1 HC
  go_wp2_with fail
  go_ret
  exact ⟨rfl, H1.out⟩

abbrev newD (room : Int) : DkD := ⟨[], room, true, -1, 0⟩

theorem isDk_new (w : World) (room : Int) : IsDk (w.alloc (.cells (dkQ (.slice none 0 0) room true (-1) 0) 93)) w.heap.size (.slice none 0 0) [] (newD room) :=
  ⟨heap_alloc_new w _, rfl, ⟨by simp [ptrs], .inl ⟨rfl, rfl⟩⟩, fun k m f hm => by simp at hm, by simp [foot, Value.ownBlock]⟩

theorem dkOk_new (room : Int) (h0 : 0 ≤ room) (h1 : room ≤ 16777216) : DkOk (newD room) :=
  ⟨List.Pairwise.nil, by simp, fun f hf => by simp at hf, fun f hf => by simp at hf, h0, h1, by simpa [usedD] using h0, by simp, by simp, by simp⟩

theorem new_yes (room : Int) (w : World) (hq : 0 ≤ room ∧ room ≤ 16777216) : Calls Tryz.prog 13 #[.int .i64 room] w fun e w' => e = .returned (.tuple #[.pointer (some ⟨w.heap.size, 0, none⟩), .int .i64 0]) ∧ w' = w.alloc (.cells (dkQ (.slice none 0 0) room true (-1) 0) 93) := by
  have hd1 : decide (room < 0) = false := decide_eq_false (by omega)
  have hd2 : decide (room > 16777216) = false := decide_eq_false (by omega)
  have HF : Hid (Calls Tryz.prog 29 #[.int .i64 room, .slice none 0 0] w fun e w' => e = .returned (.tuple #[.pointer (some ⟨w.heap.size, 0, none⟩), .int .i64 0]) ∧ w' = w.alloc (.cells (dkQ (.slice none 0 0) room true (-1) 0) 93)) := by
    show Calls _ _ _ _ _
    go_enter Tryz.func29, Tryz.ntmps29
    go_wp2_with fail
    go_loopw [21] (fun vi w2 => vi = .int .i64 0 ∧ w2 = w.alloc (.cells (dkQ (.slice none 0 0) room true (-1) 0) 93)) (fun _ _ => 0)
    case atStart => exact ⟨rfl, rfl⟩
    case round =>
      obtain ⟨rfl, rfl⟩ := hrel
      go_wp2_with fail
      all_goals (go_ret2; exact ⟨rfl, rfl⟩)
  clear hq
  go_enter Tryz.func13, Tryz.ntmps13
  go_wp2_with fail
  refine Calls.mono HF.out ?_
  rintro e w1 ⟨rfl, hw1⟩
  subst w1
  go_wp2_with fail
  go_ret2
  exact ⟨rfl, rfl⟩

end Go.Proofs.YtjdigknhiopdeaaGreat
