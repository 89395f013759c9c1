/- What WideInts, SpareInts and EqInts of lagoonref00 answer. -/
import Derived.Test.YtihbbloaigkfeaaQvD
namespace Go.Proofs.Ytihbbloaigkfeaa
open Go.RowKit Go.Shelf
set_option maxRecDepth 8000

/-- A list with its marks behind it. -/
def wdI (xs : List Int) (j : Nat) : Int := if j < xs.length then xs.getD j 0 else -3000000 - j
/-- A wide list in memory. -/
structure WdQ (w : World) (g : Nat) (n : Nat) (f : Nat → Int) : Prop where
  row : w.rowIs g 3 (n + 64) (fun j => .int .i64 (f j))
  few : n ≤ 3000000000
theorem WdQ.sees {w : World} {g n : Nat} {f : Nat → Int} (h : WdQ w g n f) : SeesQ w (.slice (some ⟨g, 0, none⟩) n (n + 64)) ((List.range n).map f) := by
  have hn := h.few
  refine ⟨some ⟨g, 0, none⟩, n + 64, by simp, by simp, by unfold maxLen; omega, ?_⟩
  by_cases e : n = 0
  · subst e; exact .inl rfl
  · refine .inr ⟨g, 0, rfl, fun i hi => ?_⟩
    have hi' : i < n := by simpa using hi
    rw [Nat.zero_add, h.row.cell (i := i) (by omega)]
    simp
theorem map_wdI (xs : List Int) : (List.range xs.length).map (wdI xs) = xs := by
  apply List.ext_getElem
  · simp
  · intro i h1 h2
    simp [wdI, h2]
theorem WdQ.below {w w' : World} {g n : Nat} {f : Nat → Int} (h : WdQ w g n f) (hb : Below w.heap.size w w') : WdQ w' g n f := ⟨h.row.of_block (by
  have h1 := h.row.lt
  have := (Below.kept hb).block g h1 (by omega)
  exact this), h.few⟩

theorem own_row7 {w : World} {g n : Nat} {xs : List Value} {f : Nat → Value} (h : w.ownsRow g 3 1 (.slice (some ⟨g, 0, none⟩) n n) n xs) (hf : ∀ i, i < n → xs[i]? = some (f i)) : w.rowIs g 3 n f := by
  obtain ⟨hl, ⟨h1, _⟩ | ⟨g', cap, cur, h1, _, hg, _, _, hs, ht⟩⟩ := h
  · cases h1
  · cases h1
    refine ⟨cur, hg, by omega, fun i hi => ?_⟩
    have := hf i hi
    rw [← ht, List.getElem?_take, if_pos (by omega)] at this
    simpa using this

set_option maxHeartbeats 400000 in
theorem wideInts_any (v : Value) (xs : List Int) (w : World) (h : SeesQ w v xs) (hreach : xs.length ≤ 3000000000) :
    Calls Try.prog 5 #[v] w fun e w' => e = .returned (.slice (some ⟨w.heap.size, 0, none⟩) xs.length (xs.length + 64)) ∧ WdQ w' w.heap.size xs.length (wdI xs) ∧ Below w.heap.size w w' := by
  obtain ⟨ao, cap, rfl, hlc, hcm, h3⟩ := h
  unfold maxLen at hcm
  obtain ⟨i0, hi, hz0, hz1, hz2⟩ := info_parts Try.infoI7
  have HX3 : Hid (xs = [] ∨ ∃ b off, ao = some ⟨b, off, none⟩ ∧ ∀ (i : Nat) (h : i < xs.length), w.cell? ⟨b, off + i, none⟩ = some (.int .i64 xs[i])) := h3
  clear h3
  go_enter Try.func5, Try.ntmps5
  go_wp2_with (at_make; refine wpList_make_full _ rfl _ _ 22 rfl w.heap.size 3 i0 (.int .i64 0) 1 Try.underlying22 hi hz0 hz1 .i64 .i64 _ _ (xs.length + 64) rfl rfl (by omega) (by omega) (by rw [hz2]; omega) (by unfold maxLen; omega) (Nat.le_refl _) ?_)
  intro w0 hown0 hgrow0
  have HR0 : Hid (w0.rowIs w.heap.size 3 (xs.length + 64) (fun _ => .int .i64 0)) := own_row7 hown0 (fun i hi => by rw [toList_madeCells_one, List.getElem?_replicate, if_pos hi])
  have HB0 : Hid (Below w.heap.size w w0) := (Below.refl _ _).grown hgrow0 (Nat.le_refl _) (fun k hk => by cases hk)
  clear hown0 hgrow0
  go_wp2
  go_loopw [4] (fun i wr => ∃ k : Nat, k ≤ xs.length + 64 ∧ i = .int .i64 k ∧ Hid (wr.rowIs w.heap.size 3 (xs.length + 64) (fun j => .int .i64 (if j < k then wdI xs j else 0)) ∧ Below w.heap.size w wr)) (fun i _ => xs.length + 64 - (intOf i).toNat)
  case atStart => exact ⟨0, Nat.zero_le _, rfl, HR0.out, HB0.out⟩
  case round =>
    clear HR0 HB0 w0
    obtain ⟨k, hk, rfl, HW⟩ := hrel
    by_cases hlt : k < xs.length + 64
    · have hcz := HW.out.1.cell (i := k) hlt
      have hfz := HW.out.1.frozen k
      have hzr := HW.out.1.lt
      have k0 : (0 : Int) ≤ (k : Int) := by omega
      have k1 : (k : Int) < ((xs.length + 64 : Nat) : Int) := by omega
      have HS : Hid (∀ x, x = wdI xs k → (wr.setCell ⟨w.heap.size, k, none⟩ (.int .i64 x)).rowIs w.heap.size 3 (xs.length + 64) (fun j => .int .i64 (if j < k + 1 then wdI xs j else 0)) ∧ Below w.heap.size w (wr.setCell ⟨w.heap.size, k, none⟩ (.int .i64 x))) := fun x hx => by
        refine ⟨(HW.out.1.set k _).congr fun j hj => ?_, HW.out.2.setCell (Nat.le_refl _) _⟩
        by_cases e : j = k
        · subst e; rw [if_pos rfl, if_pos (by omega), hx]
        · rw [if_neg e]
          by_cases e2 : j < k
          · rw [if_pos e2, if_pos (by omega)]
          · rw [if_neg e2, if_neg (by omega)]
      by_cases hlx : k < xs.length
      · rcases HX3.out with h3 | ⟨b, off, rfl, h3⟩
        · subst h3; simp at hlx
        · have hc := (HW.out.2.cell (World.block_lt_of_cell? w _ (h3 k hlx))).trans (h3 k hlx)
          have hbB : b < w.heap.size := World.block_lt_of_cell? w _ (h3 k hlx)
          have hne : ¬ b = w.heap.size := by omega
          have hne' : ¬ w.heap.size = b := by omega
          have hkx : (k : Int) < (xs.length : Int) := by omega
          have HY : Hid (xs[k] = wdI xs k) := by show _ = _; unfold wdI; rw [if_pos hlx, List.getD_eq_getElem?_getD, List.getElem?_eq_getElem hlx]; rfl
          have HS2 := HS.out _ HY.out
          have HS3 : Hid _ := HS2
          clear h3 HS HS2 HW HY
          generalize xs[k] = x at *
          go_wp2
          go_roundw
          case rel => exact ⟨k + 1, by omega, by go_num, HS3.out⟩
          case measure => simp [intOf]; omega
      · have hkx : ¬ (k : Int) < (xs.length : Int) := by omega
        have HS2 := HS.out (-3000000 - (k : Int)) (by unfold wdI; rw [if_neg hlx])
        have HS3 : Hid _ := HS2
        clear HS HS2 HW
        go_wp2
        go_roundw
        case rel => exact ⟨k + 1, by omega, by go_num, HS3.out⟩
        case measure => simp [intOf]; omega
    · obtain rfl : k = xs.length + 64 := by omega
      have HF : Hid (WdQ wr w.heap.size xs.length (wdI xs) ∧ Below w.heap.size w wr) := ⟨⟨HW.out.1.congr fun j hj => by rw [if_pos hj], by omega⟩, HW.out.2⟩
      clear HW
      go_wp2
      all_goals (go_ret; exact ⟨rfl, HF.out⟩)

/-- The marks stand. -/
theorem spareInts_any {w : World} {g n : Nat} {f : Nat → Int} (h : WdQ w g n f) (hs : ∀ j, n ≤ j → f j = -3000000 - j) :
    Calls Try.prog 9 #[.slice (some ⟨g, 0, none⟩) n (n + 64)] w fun e w' => e = .returned (.bool true) ∧ w' = w := by
  have HO : Hid (w.rowIs g 3 (n + 64) (fun j => .int .i64 (f j))) := h.row
  have HP : Hid (∀ j, n ≤ j → f j = -3000000 - j) := hs
  have hn := h.few
  have hz := h.row.lt
  clear h hs
  go_enter Try.func9, Try.ntmps9
  go_wp2
  go_loop [4] (fun i => ∃ k : Nat, n ≤ k ∧ k ≤ n + 64 ∧ i = .int .i64 k) (fun i => n + 64 - (intOf i).toNat)
  case atStart => exact ⟨n, by omega, by omega, rfl⟩
  case round =>
    obtain ⟨k, hk0, hk1, rfl⟩ := hrel
    by_cases hlt : k < n + 64
    · have hc := HO.out.cell (i := k) hlt
      rw [HP.out k hk0] at hc
      go_wp2
      go_round
      case rel => exact ⟨k + 1, by omega, by omega, by go_num⟩
      case measure => simp [intOf]; omega
    · go_wp2
      all_goals (go_ret; exact ⟨rfl, rfl⟩)

theorem eqIntsQ (v u : Value) (xs : List Int) (w : World) (h : SeesQ w v xs) (g : SeesQ w u xs) : Calls Try.prog 8 #[v, u] w fun e w' => e = .returned (.bool true) ∧ Below w.heap.size w w' := by
  obtain ⟨ao, cap, rfl, h1, h2, h3⟩ := h
  obtain ⟨bo, cap', rfl, h4, h5, h6⟩ := g
  unfold maxLen at h2 h5
  have H3 : Hid (xs = [] ∨ ∃ b off, ao = some ⟨b, off, none⟩ ∧ ∀ (i : Nat) (h : i < xs.length), w.cell? ⟨b, off + i, none⟩ = some (.int .i64 xs[i])) := h3
  have H6 : Hid (xs = [] ∨ ∃ b off, bo = some ⟨b, off, none⟩ ∧ ∀ (i : Nat) (h : i < xs.length), w.cell? ⟨b, off + i, none⟩ = some (.int .i64 xs[i])) := h6
  clear h3 h6
  have hne : ((xs.length : Int) != (xs.length : Int)) = false := by simp
  go_enter Try.func8, Try.ntmps8
  go_wp2
  go_loopw [5] (fun i wr => ∃ k : Nat, k ≤ xs.length ∧ i = .int .i64 k ∧ Hid (Below w.heap.size w wr)) (fun i _ => xs.length - (intOf i).toNat)
  case atStart => exact ⟨0, Nat.zero_le _, rfl, Below.refl _ _⟩
  case round =>
    obtain ⟨k, hk, rfl, HW⟩ := hrel
    by_cases hlt : k < xs.length
    · rcases H3.out with q | ⟨b, off, rfl, h3⟩
      · subst q; simp at hlt
      rcases H6.out with q | ⟨b', off', rfl, h6⟩
      · subst q; simp at hlt
      have c1 : wr.cell? ⟨b, off + k, none⟩ = some (.int .i64 xs[k]) := (HW.out.cell (World.block_lt_of_cell? w _ (h3 k hlt))).trans (h3 k hlt)
      have c2 : wr.cell? ⟨b', off' + k, none⟩ = some (.int .i64 xs[k]) := (HW.out.cell (World.block_lt_of_cell? w _ (h6 k hlt))).trans (h6 k hlt)
      have k0 : (0 : Int) ≤ (k : Int) := by omega
      have k1 : (k : Int) < (xs.length : Int) := by omega
      clear h3 h6
      generalize xs[k] = x at *
      have hxx : (x != x) = false := by simp
      go_wp2
      go_quiet (fail)
      go_wp2
      go_roundw
      case rel => exact ⟨k + 1, by omega, by go_num, ⟨HW.out.os, HW.out.tape, HW.out.output, HW.out.size, HW.out.block⟩⟩
      case measure => simp [intOf]; omega
    · obtain rfl : k = xs.length := by omega
      go_wp2
      all_goals (go_ret; exact ⟨rfl, HW.out⟩)

end Go.Proofs.Ytihbbloaigkfeaa
