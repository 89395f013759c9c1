/- WideRequests of lagoonref00: requests of their own with marks behind them, each by WideRequest's contract. -/
import Derived.Test.YtoeialngbbfoeaaGreatDoorWdDJ
namespace Go.Proofs.YtoeialngbbfoeaaGreatDoor
open Go.RowKit Go.Shelf
set_option maxRecDepth 8000

set_option maxHeartbeats 4000000 in
theorem wideRequests_of (n : Nat) (ops : Fin n → Rq) (oc : Fin n → List Value) (v : Value) (w : World) (ho : SeesR w v 11 (List.ofFn oc)) (hs : ∀ i, SeesRq w (oc i) (ops i)) (hn : n ≤ 20000) (hp : ∀ i, (ops i).parts ≤ 20000)
    (hI : ∀ (i : Fin n) (W : World), Below w.heap.size w W → Calls Tryz.prog 18 #[.agg (oc i).toArray] W fun e w' => ∃ ds, e = .returned (.agg ds.toArray) ∧ WidQ w' (fun k => W.heap.size ≤ k ∧ k < w'.heap.size) ds (ops i) ∧ Below W.heap.size W w') :
    Calls Tryz.prog 69 #[v] w fun e w' => ∃ oc' : Fin n → List Value, e = .returned (.slice (some ⟨w.heap.size, 0, none⟩) n (n + 64)) ∧ WidR w' w.heap.size (List.ofFn oc') ∧ (∀ i, WidQ w' (fun k => w.heap.size < k ∧ k < w'.heap.size) (oc' i) (ops i)) ∧ Below w.heap.size w w' := by
  obtain ⟨oa, occ, e3⟩ := seesR_shape ho
  rw [List.length_ofFn] at e3
  subst e3
  have HI : Hid _ := hI
  have HS : Hid (SeesR w (.slice oa n occ) 11 (List.ofFn oc) ∧ (∀ i, SeesRq w (oc i) (ops i)) ∧ ∀ i, (ops i).parts ≤ 20000) := ⟨ho, hs, hp⟩
  have hcap : n ≤ occ ∧ occ ≤ 9223372036854775807 := by
    obtain ⟨a1, c1, q1, q2, q3, _⟩ := ho
    simp at q1 q2
    unfold maxLen at q3
    omega
  obtain ⟨hcx, hcx'⟩ := hcap
  clear ho hs hI hp
  obtain ⟨i0, hi, hz0, hz1, hz2⟩ := info_parts Tryz.infoRq
  go_enter Tryz.func69, Tryz.ntmps69
  go_wp2_with (at_make; refine wpList_make_full _ rfl _ _ 31 rfl w.heap.size 33 i0 (.agg rqZ) 11 Tryz.underlying31 hi hz0 hz1 .i64 .i64 _ _ (n + 64) rfl rfl (by omega) (by omega) (by rw [hz2]; omega) (by unfold maxLen; omega) (Nat.le_refl _) ?_)
  intro w0 hown0 hgrow0
  have hbel0 : Below w.heap.size w w0 := (Below.refl _ _).grown hgrow0 (Nat.le_refl _) (fun k hk => by simp at hk)
  have HO0 : Hid (WrI w w0 w.heap.size n ops 0 ∧ w.heap.size < w0.heap.size) := ⟨⟨hbel0, _, fun _ => [], hown0, fun i hi => by omega, fun i _ hi => by omega, fun i _ hi => by omega⟩, (hown0.lt w.heap.size rfl).2⟩
  clear hown0 hgrow0 hbel0 hi hz0 hz1 hz2
  go_wp2_with fail
  go_loopw [4] (fun i wr => ∃ k : Nat, k ≤ n + 64 ∧ i = .int .i64 k ∧ Hid (WrI w wr w.heap.size n ops k ∧ w.heap.size < wr.heap.size)) (fun i _ => n + 64 - (intOf i).toNat)
  case atStart => exact ⟨0, Nat.zero_le _, rfl, HO0⟩
  case round =>
    clear HO0 w0
    obtain ⟨k, hk, rfl, HO⟩ := hrel
    by_cases hlt : k < n + 64
    · by_cases hlx : k < n
      · obtain ⟨a1', c1', q1, _, _, _, h3⟩ := HS.out.1
        simp at q1
        obtain ⟨rfl, rfl⟩ := q1
        rcases h3 with h3 | ⟨b, off, rfl, h3⟩
        · have : n = 0 := by simpa using congrArg List.length h3
          omega
        have hbel := HO.out.1.1
        have hat : ∀ j, j < 11 → wr.cell? ⟨b, off + k * 11 + j, none⟩ = some ((oc ⟨k, hlx⟩).getD j (.bool false)) := fun j hj => by
          have := cell_later (h3 k (by simpa using hlx) j hj) hbel (Nat.le_refl _)
          simpa using this
        obtain ⟨qx0, qx1, dx0, dx1, dx2, ax0, ax1, ax2, qx4, qx5, qx6, qx7, qx8, ex0, ex1, ex2, ox0, ox1, ox2, hcs⟩ := rq_forms (HS.out.2.1 ⟨k, hlx⟩)
        have HX := HI.out ⟨k, hlx⟩ wr hbel
        rw [hcs] at hat HX
        have g0 : wr.cell? ⟨b, off + k * 11, none⟩ = some (.int .i8 qx0) := hat 0 (by omega)
        have g1 : wr.cell? ⟨b, off + k * 11 + 1, none⟩ = some (.string qx1) := hat 1 (by omega)
        have g2 : wr.cell? ⟨b, off + k * 11 + 2, none⟩ = some (.slice dx0 dx1 dx2) := hat 2 (by omega)
        have g3 : wr.cell? ⟨b, off + k * 11 + 3, none⟩ = some (.slice ax0 ax1 ax2) := hat 3 (by omega)
        have g4 : wr.cell? ⟨b, off + k * 11 + 4, none⟩ = some (.int .i32 qx4) := hat 4 (by omega)
        have g5 : wr.cell? ⟨b, off + k * 11 + 5, none⟩ = some (.bool qx5) := hat 5 (by omega)
        have g6 : wr.cell? ⟨b, off + k * 11 + 6, none⟩ = some (.bool qx6) := hat 6 (by omega)
        have g7 : wr.cell? ⟨b, off + k * 11 + 7, none⟩ = some (.int .i64 qx7) := hat 7 (by omega)
        have g8 : wr.cell? ⟨b, off + k * 11 + 8, none⟩ = some (.int .i32 qx8) := hat 8 (by omega)
        have g9 : wr.cell? ⟨b, off + k * 11 + 9, none⟩ = some (.slice ex0 ex1 ex2) := hat 9 (by omega)
        have g10 : wr.cell? ⟨b, off + k * 11 + 10, none⟩ = some (.slice ox0 ox1 ox2) := hat 10 (by omega)
        clear hat hcs h3 hbel
        go_wp2_with fail
        refine HX.mono ?_
        rintro e w5 ⟨ds, rfl, hr5, b5⟩
        obtain ⟨qy0, qy1, dy0, dy1, dy2, ay0, ay1, ay2, qy4, qy5, qy6, qy7, qy8, ey0, ey1, ey2, oy0, oy1, oy2, rfl⟩ := rq_forms (hr5.sees (HS.out.2.2 ⟨k, hlx⟩))
        have HR : Hid _ := And.intro (WrI_step HO.out.2 HO.out.1 hlt b5 (fun _ => hr5) (fun h => absurd hlx (by omega))) (Nat.lt_of_lt_of_le HO.out.2 b5.size)
        obtain ⟨_, fl, E, hown0, _⟩ := HO.out.1
        have hown := ownsRow_kept hown0 (Below.kept b5) (fun q hq e => by cases hq; exact absurd (show wr.heap.size ≤ w.heap.size from e) (by have := HO.out.2; omega))
        have hl : fl.length = (n + 64) * 11 := hown.1
        obtain ⟨u0, hu0⟩ : ∃ u, w5.cell? ⟨w.heap.size, k * 11, none⟩ = some u := ⟨fl[k * 11]'(by omega), by rw [hown.cellAt _ (by omega), List.getElem?_eq_getElem (by omega)]⟩
        obtain ⟨u1, hu1⟩ : ∃ u, w5.cell? ⟨w.heap.size, k * 11 + 1, none⟩ = some u := ⟨fl[k * 11 + 1]'(by omega), by rw [hown.cellAt _ (by omega), List.getElem?_eq_getElem (by omega)]⟩
        obtain ⟨u2, hu2⟩ : ∃ u, w5.cell? ⟨w.heap.size, k * 11 + 2, none⟩ = some u := ⟨fl[k * 11 + 2]'(by omega), by rw [hown.cellAt _ (by omega), List.getElem?_eq_getElem (by omega)]⟩
        obtain ⟨u3, hu3⟩ : ∃ u, w5.cell? ⟨w.heap.size, k * 11 + 3, none⟩ = some u := ⟨fl[k * 11 + 3]'(by omega), by rw [hown.cellAt _ (by omega), List.getElem?_eq_getElem (by omega)]⟩
        obtain ⟨u4, hu4⟩ : ∃ u, w5.cell? ⟨w.heap.size, k * 11 + 4, none⟩ = some u := ⟨fl[k * 11 + 4]'(by omega), by rw [hown.cellAt _ (by omega), List.getElem?_eq_getElem (by omega)]⟩
        obtain ⟨u5, hu5⟩ : ∃ u, w5.cell? ⟨w.heap.size, k * 11 + 5, none⟩ = some u := ⟨fl[k * 11 + 5]'(by omega), by rw [hown.cellAt _ (by omega), List.getElem?_eq_getElem (by omega)]⟩
        obtain ⟨u6, hu6⟩ : ∃ u, w5.cell? ⟨w.heap.size, k * 11 + 6, none⟩ = some u := ⟨fl[k * 11 + 6]'(by omega), by rw [hown.cellAt _ (by omega), List.getElem?_eq_getElem (by omega)]⟩
        obtain ⟨u7, hu7⟩ : ∃ u, w5.cell? ⟨w.heap.size, k * 11 + 7, none⟩ = some u := ⟨fl[k * 11 + 7]'(by omega), by rw [hown.cellAt _ (by omega), List.getElem?_eq_getElem (by omega)]⟩
        obtain ⟨u8, hu8⟩ : ∃ u, w5.cell? ⟨w.heap.size, k * 11 + 8, none⟩ = some u := ⟨fl[k * 11 + 8]'(by omega), by rw [hown.cellAt _ (by omega), List.getElem?_eq_getElem (by omega)]⟩
        obtain ⟨u9, hu9⟩ : ∃ u, w5.cell? ⟨w.heap.size, k * 11 + 9, none⟩ = some u := ⟨fl[k * 11 + 9]'(by omega), by rw [hown.cellAt _ (by omega), List.getElem?_eq_getElem (by omega)]⟩
        obtain ⟨u10, hu10⟩ : ∃ u, w5.cell? ⟨w.heap.size, k * 11 + 10, none⟩ = some u := ⟨fl[k * 11 + 10]'(by omega), by rw [hown.cellAt _ (by omega), List.getElem?_eq_getElem (by omega)]⟩
        have hfz0 := hown.frozenAt (k * 11)
        have hfz1 := hown.frozenAt (k * 11 + 1)
        have hfz2 := hown.frozenAt (k * 11 + 2)
        have hfz3 := hown.frozenAt (k * 11 + 3)
        have hfz4 := hown.frozenAt (k * 11 + 4)
        have hfz5 := hown.frozenAt (k * 11 + 5)
        have hfz6 := hown.frozenAt (k * 11 + 6)
        have hfz7 := hown.frozenAt (k * 11 + 7)
        have hfz8 := hown.frozenAt (k * 11 + 8)
        have hfz9 := hown.frozenAt (k * 11 + 9)
        have hfz10 := hown.frozenAt (k * 11 + 10)
        clear hown hown0 hl HX hr5 b5 HO HS HI g0 g1 g2 g3 g4 g5 g6 g7 g8 g9 g10
        go_wp2_with fail
        go_roundw
        case rel => exact ⟨k + 1, by omega, by go_num, ⟨HR.out.1, by simpa [World.setCell] using HR.out.2⟩⟩
        case measure => simp [intOf]; omega
      · have HR : Hid _ := And.intro (WrI_step (w5 := wr) HO.out.2 HO.out.1 hlt (Below.refl _ _) (fun h => absurd h hlx) (fun _ => rfl)) HO.out.2
        obtain ⟨_, fl, E, hown, _⟩ := HO.out.1
        have hl : fl.length = (n + 64) * 11 := hown.1
        obtain ⟨u0, hu0⟩ : ∃ u, wr.cell? ⟨w.heap.size, k * 11, none⟩ = some u := ⟨fl[k * 11]'(by omega), by rw [hown.cellAt _ (by omega), List.getElem?_eq_getElem (by omega)]⟩
        obtain ⟨u1, hu1⟩ : ∃ u, wr.cell? ⟨w.heap.size, k * 11 + 1, none⟩ = some u := ⟨fl[k * 11 + 1]'(by omega), by rw [hown.cellAt _ (by omega), List.getElem?_eq_getElem (by omega)]⟩
        obtain ⟨u2, hu2⟩ : ∃ u, wr.cell? ⟨w.heap.size, k * 11 + 2, none⟩ = some u := ⟨fl[k * 11 + 2]'(by omega), by rw [hown.cellAt _ (by omega), List.getElem?_eq_getElem (by omega)]⟩
        obtain ⟨u3, hu3⟩ : ∃ u, wr.cell? ⟨w.heap.size, k * 11 + 3, none⟩ = some u := ⟨fl[k * 11 + 3]'(by omega), by rw [hown.cellAt _ (by omega), List.getElem?_eq_getElem (by omega)]⟩
        obtain ⟨u4, hu4⟩ : ∃ u, wr.cell? ⟨w.heap.size, k * 11 + 4, none⟩ = some u := ⟨fl[k * 11 + 4]'(by omega), by rw [hown.cellAt _ (by omega), List.getElem?_eq_getElem (by omega)]⟩
        obtain ⟨u5, hu5⟩ : ∃ u, wr.cell? ⟨w.heap.size, k * 11 + 5, none⟩ = some u := ⟨fl[k * 11 + 5]'(by omega), by rw [hown.cellAt _ (by omega), List.getElem?_eq_getElem (by omega)]⟩
        obtain ⟨u6, hu6⟩ : ∃ u, wr.cell? ⟨w.heap.size, k * 11 + 6, none⟩ = some u := ⟨fl[k * 11 + 6]'(by omega), by rw [hown.cellAt _ (by omega), List.getElem?_eq_getElem (by omega)]⟩
        obtain ⟨u7, hu7⟩ : ∃ u, wr.cell? ⟨w.heap.size, k * 11 + 7, none⟩ = some u := ⟨fl[k * 11 + 7]'(by omega), by rw [hown.cellAt _ (by omega), List.getElem?_eq_getElem (by omega)]⟩
        obtain ⟨u8, hu8⟩ : ∃ u, wr.cell? ⟨w.heap.size, k * 11 + 8, none⟩ = some u := ⟨fl[k * 11 + 8]'(by omega), by rw [hown.cellAt _ (by omega), List.getElem?_eq_getElem (by omega)]⟩
        obtain ⟨u9, hu9⟩ : ∃ u, wr.cell? ⟨w.heap.size, k * 11 + 9, none⟩ = some u := ⟨fl[k * 11 + 9]'(by omega), by rw [hown.cellAt _ (by omega), List.getElem?_eq_getElem (by omega)]⟩
        obtain ⟨u10, hu10⟩ : ∃ u, wr.cell? ⟨w.heap.size, k * 11 + 10, none⟩ = some u := ⟨fl[k * 11 + 10]'(by omega), by rw [hown.cellAt _ (by omega), List.getElem?_eq_getElem (by omega)]⟩
        have hfz0 := hown.frozenAt (k * 11)
        have hfz1 := hown.frozenAt (k * 11 + 1)
        have hfz2 := hown.frozenAt (k * 11 + 2)
        have hfz3 := hown.frozenAt (k * 11 + 3)
        have hfz4 := hown.frozenAt (k * 11 + 4)
        have hfz5 := hown.frozenAt (k * 11 + 5)
        have hfz6 := hown.frozenAt (k * 11 + 6)
        have hfz7 := hown.frozenAt (k * 11 + 7)
        have hfz8 := hown.frozenAt (k * 11 + 8)
        have hfz9 := hown.frozenAt (k * 11 + 9)
        have hfz10 := hown.frozenAt (k * 11 + 10)
        clear hown hl HO HS HI
        go_wp2_with fail
        go_roundw
        case rel => exact ⟨k + 1, by omega, by go_num, ⟨HR.out.1, by simpa [World.setCell] using HR.out.2⟩⟩
        case measure => simp [intOf]; omega
    · obtain rfl : k = n + 64 := by omega
      clear HS HI
      go_wp2_with fail
      go_ret
      obtain ⟨⟨hbel, fl, E, h1, h2, h3, h4⟩, hg⟩ := HO.out
      refine ⟨fun i => E i.1, rfl, ⟨fl, ?_, fun i hi j hj => ?_, fun i hi hi' j hj => ?_⟩, fun i => h3 i.1 i.2 (by omega), hbel⟩
      · rw [List.length_ofFn]; exact h1
      · rw [List.length_ofFn] at hi
        rw [List.getElem_ofFn]
        exact h2 i (by omega) (by omega) j hj
      · rw [List.length_ofFn] at hi hi'
        rw [← h4 i hi hi']
        exact h2 i hi' hi' j hj

end Go.Proofs.YtoeialngbbfoeaaGreatDoor
