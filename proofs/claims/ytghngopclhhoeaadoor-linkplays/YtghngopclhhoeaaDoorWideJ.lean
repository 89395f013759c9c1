/- What WideBytes and SpareBytes of lagoonref00 answer: the bytes with 64 marks behind them in their spare room; whether these marks stand. -/
import Derived.Test.YtghngopclhhoeaaDoorMemJ
namespace Go.Proofs.YtghngopclhhoeaaDoor
open Go.RowKit
set_option maxRecDepth 8000

/-- A round of WideBytes: the mark is laid. -/
theorem wide_rel1 {B k : Nat} {w wr : World} {xs zs : List Int} (hzl : zs.length = xs.length + 64) (hk : k < xs.length + 64) (x : Int) (hx : x = (wide xs).getD k 0)
    (hown : Owns wr B (.slice (some ⟨B, 0, none⟩) zs.length (xs.length + 64)) zs) (hpt : ∀ j, j < k → zs.getD j 0 = (wide xs).getD j 0) (hbel : Below B w wr) :
    ∃ zs' : List Int, zs'.length = xs.length + 64 ∧ Owns (wr.setCell ⟨B, k, none⟩ (.int .u8 x)) B (.slice (some ⟨B, 0, none⟩) zs'.length (xs.length + 64)) zs' ∧
      (∀ j, j < k + 1 → zs'.getD j 0 = (wide xs).getD j 0) ∧ Below B w (wr.setCell ⟨B, k, none⟩ (.int .u8 x)) := by
  refine ⟨zs.set k x, by simpa using hzl, (owns_set hown k x).1, fun j hj => ?_, hbel.setCell (Nat.le_refl _) _⟩
  rw [nth_set zs k j x (by omega)]
  by_cases h : j = k
  · rw [if_pos h, h, hx]
  · rw [if_neg h]; exact hpt j (by omega)

theorem wide_rel2 {B k : Nat} {w wr : World} {xs zs : List Int} (hzl : zs.length = xs.length + 64) (hk : k < xs.length + 64) (y x : Int) (hx : x = (wide xs).getD k 0)
    (hown : Owns wr B (.slice (some ⟨B, 0, none⟩) zs.length (xs.length + 64)) zs) (hpt : ∀ j, j < k → zs.getD j 0 = (wide xs).getD j 0) (hbel : Below B w wr) :
    ∃ zs' : List Int, zs'.length = xs.length + 64 ∧ Owns ((wr.setCell ⟨B, k, none⟩ (.int .u8 y)).setCell ⟨B, k, none⟩ (.int .u8 x)) B (.slice (some ⟨B, 0, none⟩) zs'.length (xs.length + 64)) zs' ∧
      (∀ j, j < k + 1 → zs'.getD j 0 = (wide xs).getD j 0) ∧ Below B w ((wr.setCell ⟨B, k, none⟩ (.int .u8 y)).setCell ⟨B, k, none⟩ (.int .u8 x)) := by
  refine wide_rel1 (zs := zs.set k y) (by simpa using hzl) hk x hx (owns_set hown k y).1 (fun j hj => ?_) (hbel.setCell (Nat.le_refl _) _)
  rw [nth_set zs k j y (by omega), if_neg (by omega)]; exact hpt j hj

set_option maxHeartbeats 400000 in
theorem wideBytes_any (v : Value) (xs : List Int) (w : World) (h : Sees w v xs) (hreach : xs.length ≤ 70000000000000) :
    Calls Tryd.prog 16 #[v] w fun e w' => e = .returned (.slice (some ⟨w.heap.size, 0, none⟩) xs.length (xs.length + 64)) ∧
      Owns w' w.heap.size (.slice (some ⟨w.heap.size, 0, none⟩) (wide xs).length (xs.length + 64)) (wide xs) ∧ Below w.heap.size w w' := by
  obtain ⟨ao, cap, rfl, hlc, hcm, _, h3⟩ := h
  unfold maxLen at hcm
  obtain ⟨i0, hi, hz0, hz1, hz2⟩ := info_parts Tryd.infoByte
  go_enter Tryd.func16, Tryd.ntmps16
  go_wp2_with (at_make; refine wpList_make_full _ rfl _ _ 39 rfl w.heap.size 5 i0 (.int .u8 0) 1 Tryd.underlying39 hi hz0 hz1 .i64 .i64 _ _ (xs.length + 64) rfl rfl (by omega) (by omega) (by rw [hz2]; omega) (by unfold maxLen; omega) (Nat.le_refl _) ?_)
  intro w0 hown0 hgrow0
  have hown1 := made_owns hown0
  have hbel0 : Below w.heap.size w w0 := (Below.refl _ _).grown hgrow0 (Nat.le_refl _) (fun k hk => by simp at hk)
  clear hown0 hgrow0
  go_wp2
  go_loopw [4] (fun i wr => ∃ (k : Nat) (zs : List Int), k ≤ xs.length + 64 ∧ i = .int .i64 k ∧ zs.length = xs.length + 64 ∧ Owns wr w.heap.size (.slice (some ⟨w.heap.size, 0, none⟩) zs.length (xs.length + 64)) zs ∧ (∀ j, j < k → zs.getD j 0 = (wide xs).getD j 0) ∧ Below w.heap.size w wr) (fun i _ => xs.length + 64 - (intOf i).toNat)
  case atStart => exact ⟨0, _, Nat.zero_le _, rfl, by simp, hown1, fun j hj => by omega, hbel0⟩
  case round =>
    clear hown1 hbel0 w0
    obtain ⟨k, zs, hk, rfl, hzl, hown, hpt, hbel⟩ := hrel
    have HZ : Hid _ := hzl
    have HP : Hid _ := hpt
    have HO : Hid (Owns wr w.heap.size (.slice (some ⟨w.heap.size, 0, none⟩) zs.length (xs.length + 64)) zs) := hown
    clear hpt hzl
    by_cases hlt : k < xs.length + 64
    · have hcz := owns_cell hown k (by rw [HZ.out]; omega)
      have hfz := hown.frozenAt k
      have HW : Hid _ := wide_nth xs k hlt
      clear hown
      by_cases hlx : k < xs.length
      · rcases h3 with h3 | ⟨b, off, rfl, h3⟩
        · subst h3; simp at hlx
        · have hc := cell_later (h3 k hlx) hbel (Nat.le_refl _)
          have hbB : b < w.heap.size := by have := World.block_lt_of_cell? w _ (h3 k hlx); simpa using this
          have hne : ¬ b = w.heap.size := by omega
          have hne' : ¬ w.heap.size = b := by omega
          have hw1 := HW.out
          rw [if_pos hlx] at hw1
          have HX : Hid _ := hw1.symm
          clear h3 HW hw1
          generalize xs.getD k 0 = x at *
          go_wp2
          have R := wide_rel2 HZ.out hlt (170 + (k : Int) % 5) x HX.out HO.out HP.out hbel
          obtain ⟨zs', r1, r2, r3, r4⟩ := R
          go_roundw
          case rel => exact ⟨k + 1, zs', by omega, by go_num, r1, r2, r3, r4⟩
          case measure => simp [intOf]; omega
      · have hw1 := HW.out
        rw [if_neg hlx] at hw1
        have HX : Hid _ := hw1.symm
        clear HW hw1
        go_wp2
        have R := wide_rel1 HZ.out hlt (170 + (k : Int) % 5) HX.out HO.out HP.out hbel
        obtain ⟨zs', r1, r2, r3, r4⟩ := R
        go_roundw
        case rel => exact ⟨k + 1, zs', by omega, by go_num, r1, r2, r3, r4⟩
        case measure => simp [intOf]; omega
    · have he : zs = wide xs := list_of_nths (by rw [HZ.out, wide_len]) (fun j hj => HP.out j (by have := HZ.out; omega))
      have HO1 := HO.out
      rw [he] at HO1
      have HO2 : Hid (Owns wr w.heap.size (.slice (some ⟨w.heap.size, 0, none⟩) (wide xs).length (xs.length + 64)) (wide xs)) := HO1
      clear HO HO1 he HP HZ hown
      go_wp2
      go_ret
      exact ⟨rfl, HO2.out, hbel⟩

/-- SpareBytes of a slice that WideBytes laid: true where the 64 marks behind it stand; the slice's own bytes may be others by now. -/
theorem spareBytes_any (g : Nat) (xs zs : List Int) (w : World) (hown : Owns w g (.slice (some ⟨g, 0, none⟩) zs.length (xs.length + 64)) zs) (hzl : zs.length = xs.length + 64)
    (hsp : ∀ j, xs.length ≤ j → j < xs.length + 64 → zs.getD j 0 = 170 + (j : Int) % 5) (hreach : xs.length ≤ 70000000000000) :
    Calls Tryd.prog 18 #[.slice (some ⟨g, 0, none⟩) xs.length (xs.length + 64)] w fun e w' => e = .returned (.bool true) ∧ w' = w := by
  have HZ : Hid _ := hzl
  have HO : Hid (Owns w g (.slice (some ⟨g, 0, none⟩) zs.length (xs.length + 64)) zs) := hown
  have HP : Hid _ := hsp
  clear hzl hown hsp
  generalize xs.length = n at *
  go_enter Tryd.func18, Tryd.ntmps18
  go_wp2
  go_loop [4] (fun i => ∃ k : Nat, n ≤ k ∧ k ≤ n + 64 ∧ i = .int .i64 k) (fun i => n + 64 - (intOf i).toNat)
  case atStart => exact ⟨n, by omega, by omega, rfl⟩
  case round =>
    obtain ⟨k, hk0, hk1, rfl⟩ := hrel
    by_cases hlt : k < n + 64
    · have hc := owns_cell HO.out k (by rw [HZ.out]; omega)
      rw [HP.out k hk0 hlt] at hc
      go_wp2
      go_round
      case rel => exact ⟨k + 1, by omega, by omega, by go_num⟩
      case measure => simp [intOf]; omega
    · go_wp2
      go_ret
      exact ⟨rfl, rfl⟩
end Go.Proofs.YtghngopclhhoeaaDoor
