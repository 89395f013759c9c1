/- WideTxns of lagoonref00: transactions of their own, each list with marks behind it. -/
import Derived.Test.YtobnggkgpenmfaaGreatDoorChOJ
import Derived.Test.YtobnggkgpenmfaaGreatDoorCopyZJ
namespace Go.Proofs.YtobnggkgpenmfaaGreatDoor
open Go.RowKit Go.Shelf
set_option maxRecDepth 8000

set_option maxHeartbeats 4000000 in
theorem wideTxns_any (v : Value) (l : List TxD) (w : World) (h : SeesTxs w v l) (hl : l.length ≤ 1000000) (hp : ∀ t ∈ l, t.rq.parts ≤ 20000) (ht : Tab w) (hg0 : 1 < w.heap.size) :
    Calls Tryz.prog 7 #[v] w fun e w' => e = .returned (.slice (some ⟨w.heap.size, 0, none⟩) l.length (l.length + 64)) ∧ WidT w' w.heap.size (fun q => w.heap.size < q ∧ q < w'.heap.size) l ∧ Below w.heap.size w w' := by
  obtain ⟨ao, cap, rfl, hlc, hcm⟩ := txs_shape h
  have HS : Hid (SeesTxs w (.slice ao l.length cap) l ∧ ∀ t ∈ l, t.rq.parts ≤ 20000) := ⟨h, hp⟩
  have HT : Hid (∀ W, Below w.heap.size w W → Tab W ∧ 1 < W.heap.size) := fun W hW => ⟨ht.below hW hg0, Nat.lt_of_lt_of_le hg0 hW.size⟩
  unfold maxLen at hcm
  clear h hp ht hg0
  obtain ⟨i0, hi, hz0, hz1, hz2⟩ := info_parts Tryz.infoTx
  go_enter Tryz.func7, Tryz.ntmps7
  go_wp2_with (at_make; refine wpList_make_full _ rfl _ _ 25 rfl w.heap.size 49 i0 _ 16 Tryz.underlying25 hi hz0 hz1 .i64 .i64 _ _ (l.length + 64) rfl rfl (by omega) (by omega) (by rw [hz2]; omega) (by unfold maxLen; omega) (Nat.le_refl _) ?_)
  intro w0 hown0 hgrow0
  have hbel0 : Below w.heap.size w w0 := (Below.refl _ _).grown hgrow0 (Nat.le_refl _) (fun k hk => by simp at hk)
  have HO0 : Hid (WtI w w0 w.heap.size l 0 ∧ w.heap.size < w0.heap.size) := ⟨⟨hbel0, _, fun _ => [], hown0, fun i hi => by omega, fun i _ hi => by omega, fun i _ hi => by omega⟩, (hown0.lt w.heap.size rfl).2⟩
  clear hown0 hgrow0 hbel0 hi hz0 hz1 hz2
  go_wp2_with fail
  go_loopw [4] (fun i wr => ∃ k : Nat, k ≤ l.length + 64 ∧ i = .int .i64 k ∧ Hid (WtI w wr w.heap.size l k ∧ w.heap.size < wr.heap.size)) (fun i _ => l.length + 64 - (intOf i).toNat)
  case atStart => exact ⟨0, Nat.zero_le _, rfl, HO0⟩
  case round =>
    clear HO0 w0
    obtain ⟨k, hk, rfl, HO⟩ := hrel
    by_cases hlt : k < l.length + 64
    · by_cases hlx : k < l.length
      · have hbel := HO.out.1.1
        obtain ⟨b, off, cap', rc, hv, _, _, hr, hat⟩ := txs_at (HS.out.1.below hbel (Nat.le_refl _)) k hlx
        simp at hv
        obtain ⟨rfl, rfl⟩ := hv
        have HX := wideTxn_any _ l[k] wr ⟨rc, rfl, hr⟩ (HS.out.2 l[k] (List.getElem_mem hlx)) (HT.out _ hbel).1 (HT.out _ hbel).2
        have HP : Hid (l[k].rq.parts ≤ 20000) := HS.out.2 l[k] (List.getElem_mem hlx)
        have HST : Hid (∀ {w5 : World} {cs : List Value}, Below wr.heap.size wr w5 → WidX w5 (fun q => wr.heap.size ≤ q ∧ q < w5.heap.size) cs l[k] → ∀ hi : k < l.length, WidX w5 (fun q => wr.heap.size ≤ q ∧ q < w5.heap.size) cs l[k]) := fun _ h _ => h
        obtain ⟨qx0, qx1, dx0, dx1, dx2, ax0, ax1, ax2, qx4, qx5, qx6, qx7, qx8, ex0, ex1, ex2, ox0, ox1, ox2, rfl⟩ := rq_forms hr
        have hh : txHead l[k] = [.int .u32 l[k].ep, .int .u32 l[k].n, .int .i8 l[k].srv, .int .u32 l[k].boot, .int .i64 l[k].num] := rfl
        rw [hh] at hat HX
        obtain ⟨t, ht⟩ : ∃ t, t = l[k] := ⟨_, rfl⟩
        rw [← ht] at hat HX HP
        have HE : Hid (t = l[k]) := ht
        clear ht
        have g0 : wr.cell? ⟨b, off + k * 16, none⟩ = some (.int .u32 t.ep) := hat 0 (by omega)
        have g1 : wr.cell? ⟨b, off + k * 16 + 1, none⟩ = some (.int .u32 t.n) := hat 1 (by omega)
        have g2 : wr.cell? ⟨b, off + k * 16 + 2, none⟩ = some (.int .i8 t.srv) := hat 2 (by omega)
        have g3 : wr.cell? ⟨b, off + k * 16 + 3, none⟩ = some (.int .u32 t.boot) := hat 3 (by omega)
        have g4 : wr.cell? ⟨b, off + k * 16 + 4, none⟩ = some (.int .i64 t.num) := hat 4 (by omega)
        have g5 : wr.cell? ⟨b, off + k * 16 + 5, none⟩ = some (.int .i8 qx0) := hat 5 (by omega)
        have g6 : wr.cell? ⟨b, off + k * 16 + 6, none⟩ = some (.string qx1) := hat 6 (by omega)
        have g7 : wr.cell? ⟨b, off + k * 16 + 7, none⟩ = some (.slice dx0 dx1 dx2) := hat 7 (by omega)
        have g8 : wr.cell? ⟨b, off + k * 16 + 8, none⟩ = some (.slice ax0 ax1 ax2) := hat 8 (by omega)
        have g9 : wr.cell? ⟨b, off + k * 16 + 9, none⟩ = some (.int .i32 qx4) := hat 9 (by omega)
        have g10 : wr.cell? ⟨b, off + k * 16 + 10, none⟩ = some (.bool qx5) := hat 10 (by omega)
        have g11 : wr.cell? ⟨b, off + k * 16 + 11, none⟩ = some (.bool qx6) := hat 11 (by omega)
        have g12 : wr.cell? ⟨b, off + k * 16 + 12, none⟩ = some (.int .i64 qx7) := hat 12 (by omega)
        have g13 : wr.cell? ⟨b, off + k * 16 + 13, none⟩ = some (.int .i32 qx8) := hat 13 (by omega)
        have g14 : wr.cell? ⟨b, off + k * 16 + 14, none⟩ = some (.slice ex0 ex1 ex2) := hat 14 (by omega)
        have g15 : wr.cell? ⟨b, off + k * 16 + 15, none⟩ = some (.slice ox0 ox1 ox2) := hat 15 (by omega)
        clear hat hr hbel hh HST
        go_wp2_with fail
        refine HX.mono ?_
        rintro e w5 ⟨ds, rfl, hr5, b5⟩
        obtain ⟨qy0, qy1, dy0, dy1, dy2, ay0, ay1, ay2, qy4, qy5, qy6, qy7, qy8, ey0, ey1, ey2, oy0, oy1, oy2, rfl⟩ := rq_forms (hr5.sees HP.out)
        have HR : Hid (WtI w ((((((((((((((((w5.setCell ⟨w.heap.size, k * 16, none⟩ (.int .u32 t.ep)).setCell ⟨w.heap.size, k * 16 + 1, none⟩ (.int .u32 t.n)).setCell ⟨w.heap.size, k * 16 + 2, none⟩ (.int .i8 t.srv)).setCell ⟨w.heap.size, k * 16 + 3, none⟩ (.int .u32 t.boot)).setCell ⟨w.heap.size, k * 16 + 4, none⟩ (.int .i64 t.num)).setCell ⟨w.heap.size, k * 16 + 5, none⟩ (.int .i8 qy0)).setCell ⟨w.heap.size, k * 16 + 6, none⟩ (.string qy1)).setCell ⟨w.heap.size, k * 16 + 7, none⟩ (.slice dy0 dy1 dy2)).setCell ⟨w.heap.size, k * 16 + 8, none⟩ (.slice ay0 ay1 ay2)).setCell ⟨w.heap.size, k * 16 + 9, none⟩ (.int .i32 qy4)).setCell ⟨w.heap.size, k * 16 + 10, none⟩ (.bool qy5)).setCell ⟨w.heap.size, k * 16 + 11, none⟩ (.bool qy6)).setCell ⟨w.heap.size, k * 16 + 12, none⟩ (.int .i64 qy7)).setCell ⟨w.heap.size, k * 16 + 13, none⟩ (.int .i32 qy8)).setCell ⟨w.heap.size, k * 16 + 14, none⟩ (.slice ey0 ey1 ey2)).setCell ⟨w.heap.size, k * 16 + 15, none⟩ (.slice oy0 oy1 oy2)) w.heap.size l (k + 1) ∧ w.heap.size < w5.heap.size) := ⟨WtI_step HO.out.2 HO.out.1 hlt b5 (fun _ => by rw [← HE.out]; exact ⟨_, rfl, hr5⟩) (fun h => absurd hlx (by omega)), Nat.lt_of_lt_of_le HO.out.2 b5.size⟩
        obtain ⟨_, fl, E, hown0, _⟩ := HO.out.1
        have hown := ownsRow_kept hown0 (Below.kept b5) (fun q hq e => by cases hq; exact absurd (show wr.heap.size ≤ w.heap.size from e) (by have := HO.out.2; omega))
        have hl : fl.length = (l.length + 64) * 16 := hown.1
        obtain ⟨u0, hu0⟩ : ∃ u, w5.cell? ⟨w.heap.size, k * 16, none⟩ = some u := ⟨fl[k * 16]'(by omega), by rw [hown.cellAt _ (by omega), List.getElem?_eq_getElem (by omega)]⟩
        obtain ⟨u1, hu1⟩ : ∃ u, w5.cell? ⟨w.heap.size, k * 16 + 1, none⟩ = some u := ⟨fl[k * 16 + 1]'(by omega), by rw [hown.cellAt _ (by omega), List.getElem?_eq_getElem (by omega)]⟩
        obtain ⟨u2, hu2⟩ : ∃ u, w5.cell? ⟨w.heap.size, k * 16 + 2, none⟩ = some u := ⟨fl[k * 16 + 2]'(by omega), by rw [hown.cellAt _ (by omega), List.getElem?_eq_getElem (by omega)]⟩
        obtain ⟨u3, hu3⟩ : ∃ u, w5.cell? ⟨w.heap.size, k * 16 + 3, none⟩ = some u := ⟨fl[k * 16 + 3]'(by omega), by rw [hown.cellAt _ (by omega), List.getElem?_eq_getElem (by omega)]⟩
        obtain ⟨u4, hu4⟩ : ∃ u, w5.cell? ⟨w.heap.size, k * 16 + 4, none⟩ = some u := ⟨fl[k * 16 + 4]'(by omega), by rw [hown.cellAt _ (by omega), List.getElem?_eq_getElem (by omega)]⟩
        obtain ⟨u5, hu5⟩ : ∃ u, w5.cell? ⟨w.heap.size, k * 16 + 5, none⟩ = some u := ⟨fl[k * 16 + 5]'(by omega), by rw [hown.cellAt _ (by omega), List.getElem?_eq_getElem (by omega)]⟩
        obtain ⟨u6, hu6⟩ : ∃ u, w5.cell? ⟨w.heap.size, k * 16 + 6, none⟩ = some u := ⟨fl[k * 16 + 6]'(by omega), by rw [hown.cellAt _ (by omega), List.getElem?_eq_getElem (by omega)]⟩
        obtain ⟨u7, hu7⟩ : ∃ u, w5.cell? ⟨w.heap.size, k * 16 + 7, none⟩ = some u := ⟨fl[k * 16 + 7]'(by omega), by rw [hown.cellAt _ (by omega), List.getElem?_eq_getElem (by omega)]⟩
        obtain ⟨u8, hu8⟩ : ∃ u, w5.cell? ⟨w.heap.size, k * 16 + 8, none⟩ = some u := ⟨fl[k * 16 + 8]'(by omega), by rw [hown.cellAt _ (by omega), List.getElem?_eq_getElem (by omega)]⟩
        obtain ⟨u9, hu9⟩ : ∃ u, w5.cell? ⟨w.heap.size, k * 16 + 9, none⟩ = some u := ⟨fl[k * 16 + 9]'(by omega), by rw [hown.cellAt _ (by omega), List.getElem?_eq_getElem (by omega)]⟩
        obtain ⟨u10, hu10⟩ : ∃ u, w5.cell? ⟨w.heap.size, k * 16 + 10, none⟩ = some u := ⟨fl[k * 16 + 10]'(by omega), by rw [hown.cellAt _ (by omega), List.getElem?_eq_getElem (by omega)]⟩
        obtain ⟨u11, hu11⟩ : ∃ u, w5.cell? ⟨w.heap.size, k * 16 + 11, none⟩ = some u := ⟨fl[k * 16 + 11]'(by omega), by rw [hown.cellAt _ (by omega), List.getElem?_eq_getElem (by omega)]⟩
        obtain ⟨u12, hu12⟩ : ∃ u, w5.cell? ⟨w.heap.size, k * 16 + 12, none⟩ = some u := ⟨fl[k * 16 + 12]'(by omega), by rw [hown.cellAt _ (by omega), List.getElem?_eq_getElem (by omega)]⟩
        obtain ⟨u13, hu13⟩ : ∃ u, w5.cell? ⟨w.heap.size, k * 16 + 13, none⟩ = some u := ⟨fl[k * 16 + 13]'(by omega), by rw [hown.cellAt _ (by omega), List.getElem?_eq_getElem (by omega)]⟩
        obtain ⟨u14, hu14⟩ : ∃ u, w5.cell? ⟨w.heap.size, k * 16 + 14, none⟩ = some u := ⟨fl[k * 16 + 14]'(by omega), by rw [hown.cellAt _ (by omega), List.getElem?_eq_getElem (by omega)]⟩
        obtain ⟨u15, hu15⟩ : ∃ u, w5.cell? ⟨w.heap.size, k * 16 + 15, none⟩ = some u := ⟨fl[k * 16 + 15]'(by omega), by rw [hown.cellAt _ (by omega), List.getElem?_eq_getElem (by omega)]⟩
        have hfz0 := hown.frozenAt (k * 16)
        have hfz1 := hown.frozenAt (k * 16 + 1)
        have hfz2 := hown.frozenAt (k * 16 + 2)
        have hfz3 := hown.frozenAt (k * 16 + 3)
        have hfz4 := hown.frozenAt (k * 16 + 4)
        have hfz5 := hown.frozenAt (k * 16 + 5)
        have hfz6 := hown.frozenAt (k * 16 + 6)
        have hfz7 := hown.frozenAt (k * 16 + 7)
        have hfz8 := hown.frozenAt (k * 16 + 8)
        have hfz9 := hown.frozenAt (k * 16 + 9)
        have hfz10 := hown.frozenAt (k * 16 + 10)
        have hfz11 := hown.frozenAt (k * 16 + 11)
        have hfz12 := hown.frozenAt (k * 16 + 12)
        have hfz13 := hown.frozenAt (k * 16 + 13)
        have hfz14 := hown.frozenAt (k * 16 + 14)
        have hfz15 := hown.frozenAt (k * 16 + 15)
        clear hown hown0 hl HX hr5 b5 HO HS HT HP HE g0 g1 g2 g3 g4 g5 g6 g7 g8 g9 g10 g11 g12 g13 g14 g15
        go_wp2_with fail
        go_roundw
        case rel => exact ⟨k + 1, by omega, by go_num, ⟨HR.out.1, by simpa [World.setCell] using HR.out.2⟩⟩
        case measure => simp [intOf]; omega
      · have HR : Hid _ := And.intro (WtI_step (w5 := wr) HO.out.2 HO.out.1 hlt (Below.refl _ _) (fun h => absurd h hlx) (fun _ => rfl)) HO.out.2
        obtain ⟨_, fl, E, hown, _⟩ := HO.out.1
        have hl : fl.length = (l.length + 64) * 16 := hown.1
        obtain ⟨u0, hu0⟩ : ∃ u, wr.cell? ⟨w.heap.size, k * 16, none⟩ = some u := ⟨fl[k * 16]'(by omega), by rw [hown.cellAt _ (by omega), List.getElem?_eq_getElem (by omega)]⟩
        obtain ⟨u1, hu1⟩ : ∃ u, wr.cell? ⟨w.heap.size, k * 16 + 1, none⟩ = some u := ⟨fl[k * 16 + 1]'(by omega), by rw [hown.cellAt _ (by omega), List.getElem?_eq_getElem (by omega)]⟩
        obtain ⟨u2, hu2⟩ : ∃ u, wr.cell? ⟨w.heap.size, k * 16 + 2, none⟩ = some u := ⟨fl[k * 16 + 2]'(by omega), by rw [hown.cellAt _ (by omega), List.getElem?_eq_getElem (by omega)]⟩
        obtain ⟨u3, hu3⟩ : ∃ u, wr.cell? ⟨w.heap.size, k * 16 + 3, none⟩ = some u := ⟨fl[k * 16 + 3]'(by omega), by rw [hown.cellAt _ (by omega), List.getElem?_eq_getElem (by omega)]⟩
        obtain ⟨u4, hu4⟩ : ∃ u, wr.cell? ⟨w.heap.size, k * 16 + 4, none⟩ = some u := ⟨fl[k * 16 + 4]'(by omega), by rw [hown.cellAt _ (by omega), List.getElem?_eq_getElem (by omega)]⟩
        obtain ⟨u5, hu5⟩ : ∃ u, wr.cell? ⟨w.heap.size, k * 16 + 5, none⟩ = some u := ⟨fl[k * 16 + 5]'(by omega), by rw [hown.cellAt _ (by omega), List.getElem?_eq_getElem (by omega)]⟩
        obtain ⟨u6, hu6⟩ : ∃ u, wr.cell? ⟨w.heap.size, k * 16 + 6, none⟩ = some u := ⟨fl[k * 16 + 6]'(by omega), by rw [hown.cellAt _ (by omega), List.getElem?_eq_getElem (by omega)]⟩
        obtain ⟨u7, hu7⟩ : ∃ u, wr.cell? ⟨w.heap.size, k * 16 + 7, none⟩ = some u := ⟨fl[k * 16 + 7]'(by omega), by rw [hown.cellAt _ (by omega), List.getElem?_eq_getElem (by omega)]⟩
        obtain ⟨u8, hu8⟩ : ∃ u, wr.cell? ⟨w.heap.size, k * 16 + 8, none⟩ = some u := ⟨fl[k * 16 + 8]'(by omega), by rw [hown.cellAt _ (by omega), List.getElem?_eq_getElem (by omega)]⟩
        obtain ⟨u9, hu9⟩ : ∃ u, wr.cell? ⟨w.heap.size, k * 16 + 9, none⟩ = some u := ⟨fl[k * 16 + 9]'(by omega), by rw [hown.cellAt _ (by omega), List.getElem?_eq_getElem (by omega)]⟩
        obtain ⟨u10, hu10⟩ : ∃ u, wr.cell? ⟨w.heap.size, k * 16 + 10, none⟩ = some u := ⟨fl[k * 16 + 10]'(by omega), by rw [hown.cellAt _ (by omega), List.getElem?_eq_getElem (by omega)]⟩
        obtain ⟨u11, hu11⟩ : ∃ u, wr.cell? ⟨w.heap.size, k * 16 + 11, none⟩ = some u := ⟨fl[k * 16 + 11]'(by omega), by rw [hown.cellAt _ (by omega), List.getElem?_eq_getElem (by omega)]⟩
        obtain ⟨u12, hu12⟩ : ∃ u, wr.cell? ⟨w.heap.size, k * 16 + 12, none⟩ = some u := ⟨fl[k * 16 + 12]'(by omega), by rw [hown.cellAt _ (by omega), List.getElem?_eq_getElem (by omega)]⟩
        obtain ⟨u13, hu13⟩ : ∃ u, wr.cell? ⟨w.heap.size, k * 16 + 13, none⟩ = some u := ⟨fl[k * 16 + 13]'(by omega), by rw [hown.cellAt _ (by omega), List.getElem?_eq_getElem (by omega)]⟩
        obtain ⟨u14, hu14⟩ : ∃ u, wr.cell? ⟨w.heap.size, k * 16 + 14, none⟩ = some u := ⟨fl[k * 16 + 14]'(by omega), by rw [hown.cellAt _ (by omega), List.getElem?_eq_getElem (by omega)]⟩
        obtain ⟨u15, hu15⟩ : ∃ u, wr.cell? ⟨w.heap.size, k * 16 + 15, none⟩ = some u := ⟨fl[k * 16 + 15]'(by omega), by rw [hown.cellAt _ (by omega), List.getElem?_eq_getElem (by omega)]⟩
        have hfz0 := hown.frozenAt (k * 16)
        have hfz1 := hown.frozenAt (k * 16 + 1)
        have hfz2 := hown.frozenAt (k * 16 + 2)
        have hfz3 := hown.frozenAt (k * 16 + 3)
        have hfz4 := hown.frozenAt (k * 16 + 4)
        have hfz5 := hown.frozenAt (k * 16 + 5)
        have hfz6 := hown.frozenAt (k * 16 + 6)
        have hfz7 := hown.frozenAt (k * 16 + 7)
        have hfz8 := hown.frozenAt (k * 16 + 8)
        have hfz9 := hown.frozenAt (k * 16 + 9)
        have hfz10 := hown.frozenAt (k * 16 + 10)
        have hfz11 := hown.frozenAt (k * 16 + 11)
        have hfz12 := hown.frozenAt (k * 16 + 12)
        have hfz13 := hown.frozenAt (k * 16 + 13)
        have hfz14 := hown.frozenAt (k * 16 + 14)
        have hfz15 := hown.frozenAt (k * 16 + 15)
        clear hown hl HO HS HT
        go_wp2_with fail
        go_roundw
        case rel => exact ⟨k + 1, by omega, by go_num, ⟨HR.out.1, by simpa [World.setCell] using HR.out.2⟩⟩
        case measure => simp [intOf]; omega
    · obtain rfl : k = l.length + 64 := by omega
      clear HS HT
      go_wp2_with fail
      go_ret
      obtain ⟨⟨hbel, fl, E, h1, h2, h3, h4⟩, hg⟩ := HO.out
      exact ⟨rfl, ⟨fl, E, h1, fun i hi j hj => h2 i hi hi j hj, fun i hi => h3 i hi (by omega), fun i hi hi' => h4 i hi hi'⟩, hbel⟩
end Go.Proofs.YtobnggkgpenmfaaGreatDoor
