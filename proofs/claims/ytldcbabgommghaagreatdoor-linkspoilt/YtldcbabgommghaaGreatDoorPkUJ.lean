/- Check of the document's layer 15, for every packet. -/
import Derived.Test.YtldcbabgommghaaGreatDoorPkU1J
namespace Go.Proofs.YtldcbabgommghaaGreatDoor
open Go.RowKit
set_option maxRecDepth 8000

set_option maxHeartbeats 8000000 in
theorem refChk15 (p : PkD) (tc : List Value) (bv : Value) (tz : Bool) (hz : tz = true ↔ p.tx = txN) (w : World) (hg : p.good) (hs : SeesPk w tc bv p) :
    Calls Tryz.prog 6 #[.agg (pkL p tc bv).toArray] w fun r w' => r = .returned (.int .i64 (if docB p tz then 0 else 150)) ∧ Below w.heap.size w w' := by
  obtain ⟨W, HE, HW0⟩ := pk_box p tc bv w
  have hl16 := hs.tx.len
  obtain ⟨ao, cap, rfl⟩ : ∃ ao cap, bv = .slice ao p.bys.length cap := by obtain ⟨ao, cap, h, _⟩ := hs.bys; exact ⟨ao, cap, h⟩
  have HS : Hid (SeesPk w tc (.slice ao p.bys.length cap) p ∧ p.good ∧ (tz = true ↔ p.tx = txN)) := ⟨hs, hg, hz⟩
  obtain ⟨E, hE⟩ : ∃ E : Int, E = (if docB p tz then 0 else 150) := ⟨_, rfl⟩
  rw [← hE]
  have HEE : Hid _ := hE
  have q16 : (Tryz.prog.info? 37).map (·.size) = some tc.length := by rw [hl16]; exact txSz
  clear hE hs hg hz
  have c0 : W.cell? ⟨w.heap.size, 0, none⟩ = some (.int .i8 p.kind) := pk_at HW0.out.2 rfl
  go_enter Tryz.func6, Tryz.ntmps6
  go_upto_region 1 with fail
  rw [← HE.out]
  clear HE
  go_wp2_with fail
  refine (letters15_any _ _).mono ?_
  rintro _ wq ⟨rfl, hq⟩
  rw [hq]
  clear hq wq c0
  obtain ⟨T, hT⟩ : ∃ T, T = lt15 p.kind := ⟨_, rfl⟩
  rw [← hT]
  have HT : Hid (T.size ≤ 1000) := by show T.size ≤ 1000; rw [hT]; exact lt15_size _
  have HTE : Hid _ := hT
  clear hT
  go_upto_region 2 with fail
  have HD2 : Hid (Below w.heap.size w W.drew ∧ PkAt W.drew w.heap.size p tc (.slice ao p.bys.length cap)) := ⟨HW0.out.1.trans ((below_drewN (Below.refl _ _) 1).mono HW0.out.1.size), HW0.out.2⟩
  refine wp_region_held_drew (S := (fun W => W.cell? ⟨w.heap.size, 1, none⟩ = some (.int .u32 p.cb) ∧ W.cell? ⟨w.heap.size, 2, none⟩ = some (.int .u32 p.ct) ∧ W.cell? ⟨w.heap.size, 3, none⟩ = some (.int .u32 p.lb) ∧ W.cell? ⟨w.heap.size, 4, none⟩ = some (.int .u32 p.lt) ∧ W.cell? ⟨w.heap.size, 5, none⟩ = some (.int .i64 p.place) ∧ W.cell? ⟨w.heap.size, 6, none⟩ = some (.int .u32 p.ep) ∧ W.cell? ⟨w.heap.size, 7, none⟩ = some (.int .u32 p.cur) ∧ W.cell? ⟨w.heap.size, 8, none⟩ = some (.int .u32 p.ze) ∧ W.cell? ⟨w.heap.size, 9, none⟩ = some (.int .u32 p.zn) ∧ W.cell? ⟨w.heap.size, 10, none⟩ = some (.int .u32 p.pe) ∧ W.cell? ⟨w.heap.size, 11, none⟩ = some (.int .u32 p.pn) ∧ W.cell? ⟨w.heap.size, 12, none⟩ = some (.bool p.cnt) ∧ W.cell? ⟨w.heap.size, 13, none⟩ = some (.bool p.fin) ∧ W.cell? ⟨w.heap.size, 30, none⟩ = some (.slice ao p.bys.length cap) ∧ W.cell? ⟨w.heap.size, 31, none⟩ = some (.int .i64 p.ses) ∧ W.rangeAt w.heap.size 14 tc)) (by kernel_rfl) ?_ (fun hHeld => ?_)
  · exact HD2.out.2.held hl16
  refine tkV 0 (v := ?_) rfl (Or.inl ⟨by rfl, ?_⟩) ?_
  rotate_left
  · (intro w hSw; (try dsimp only at hSw); go_simp) <;> with_reducible rfl
  try simp only [Act.put, sA, sB, sC]
  refine tkV 1 (v := ?_) rfl (Or.inl ⟨by rfl, ?_⟩) ?_
  rotate_left
  · (intro w hSw; (try dsimp only at hSw); go_simp) <;> with_reducible rfl
  try simp only [Act.put, sA, sB, sC]
  refine tkV 2 (v := ?_) rfl (Or.inl ⟨by rfl, ?_⟩) ?_
  rotate_left
  · (intro w hSw; (try dsimp only at hSw); go_simp) <;> with_reducible rfl
  try simp only [Act.put, sA, sB, sC]
  refine wpAnyH_ready (rs := [3]) (by kernel_rfl) (by simp) ?_
  refine acV 3 rfl (fun K hK => ?_) AllReadyH.nil
  go_simp
  refine (has15_any T 99 _ HT.out).mono ?_
  rintro _ wq ⟨rfl, hq⟩
  rw [hq]
  clear hq wq
  refine hK.out _ _ (by assumption) (fun hHeld => ?_)
  clear hK K
  refine wpAnyH_ready (rs := [4]) (by kernel_rfl) (by simp) ?_
  refine acV 4 rfl (fun K hK => ?_) AllReadyH.nil
  go_simp
  refine (rConn_any _ _ _ _).mono ?_
  rintro _ w2 ⟨rfl, b2⟩
  have HW1 : Hid (Below w.heap.size w w2 ∧ PkAt w2 w.heap.size p tc (.slice ao p.bys.length cap)) := ⟨HD2.out.1.trans (b2.mono HD2.out.1.size), HD2.out.2.later b2 HD2.out.2.lt⟩
  clear b2
  refine hK.out _ _ (HW1.out.2.held hl16) (fun hHeld => ?_)
  clear hK K
  refine tkV 5 (v := ?_) rfl (Or.inl ⟨by rfl, ?_⟩) ?_
  rotate_left
  · (intro w hSw; (try dsimp only at hSw); go_simp) <;> with_reducible rfl
  try simp only [Act.put, sA, sB, sC]
  refine wpAnyH_done (by kernel_rfl) ?_ _
  clear hHeld HD2 HW0
  obtain ⟨a, ha⟩ : ∃ a, a = rConn p.cb p.ct (hasB T 99) := ⟨_, rfl⟩
  rw [← ha]
  have HAA : Hid _ := ha
  clear ha
  go_upto_region 3 with fail
  have HD3 : Hid (Below w.heap.size w w2.drew ∧ PkAt w2.drew w.heap.size p tc (.slice ao p.bys.length cap)) := ⟨HW1.out.1.trans ((below_drewN (Below.refl _ _) 1).mono HW1.out.1.size), HW1.out.2⟩
  refine wp_region_held_drew (S := (fun W => W.cell? ⟨w.heap.size, 1, none⟩ = some (.int .u32 p.cb) ∧ W.cell? ⟨w.heap.size, 2, none⟩ = some (.int .u32 p.ct) ∧ W.cell? ⟨w.heap.size, 3, none⟩ = some (.int .u32 p.lb) ∧ W.cell? ⟨w.heap.size, 4, none⟩ = some (.int .u32 p.lt) ∧ W.cell? ⟨w.heap.size, 5, none⟩ = some (.int .i64 p.place) ∧ W.cell? ⟨w.heap.size, 6, none⟩ = some (.int .u32 p.ep) ∧ W.cell? ⟨w.heap.size, 7, none⟩ = some (.int .u32 p.cur) ∧ W.cell? ⟨w.heap.size, 8, none⟩ = some (.int .u32 p.ze) ∧ W.cell? ⟨w.heap.size, 9, none⟩ = some (.int .u32 p.zn) ∧ W.cell? ⟨w.heap.size, 10, none⟩ = some (.int .u32 p.pe) ∧ W.cell? ⟨w.heap.size, 11, none⟩ = some (.int .u32 p.pn) ∧ W.cell? ⟨w.heap.size, 12, none⟩ = some (.bool p.cnt) ∧ W.cell? ⟨w.heap.size, 13, none⟩ = some (.bool p.fin) ∧ W.cell? ⟨w.heap.size, 30, none⟩ = some (.slice ao p.bys.length cap) ∧ W.cell? ⟨w.heap.size, 31, none⟩ = some (.int .i64 p.ses) ∧ W.rangeAt w.heap.size 14 tc)) (by kernel_rfl) ?_ (fun hHeld => ?_)
  · exact HD3.out.2.held hl16
  refine tkV 0 (v := ?_) rfl (Or.inl ⟨by rfl, ?_⟩) ?_
  rotate_left
  · (intro w hSw; (try dsimp only at hSw); go_simp) <;> with_reducible rfl
  try simp only [Act.put, sA, sB, sC]
  refine tkV 1 (v := ?_) rfl (Or.inl ⟨by rfl, ?_⟩) ?_
  rotate_left
  · (intro w hSw; (try dsimp only at hSw); go_simp) <;> with_reducible rfl
  try simp only [Act.put, sA, sB, sC]
  refine tkV 2 (v := ?_) rfl (Or.inl ⟨by rfl, ?_⟩) ?_
  rotate_left
  · (intro w hSw; (try dsimp only at hSw); go_simp) <;> with_reducible rfl
  try simp only [Act.put, sA, sB, sC]
  refine wpAnyH_ready (rs := [3]) (by kernel_rfl) (by simp) ?_
  refine acV 3 rfl (fun K hK => ?_) AllReadyH.nil
  go_simp
  refine (has15_any T 108 _ HT.out).mono ?_
  rintro _ wq ⟨rfl, hq⟩
  rw [hq]
  clear hq wq
  refine hK.out _ _ (by assumption) (fun hHeld => ?_)
  clear hK K
  refine wpAnyH_ready (rs := [4]) (by kernel_rfl) (by simp) ?_
  refine acV 4 rfl (fun K hK => ?_) AllReadyH.nil
  go_simp
  refine (rConn_any _ _ _ _).mono ?_
  rintro _ w3 ⟨rfl, b3⟩
  have HW2 : Hid (Below w.heap.size w w3 ∧ PkAt w3 w.heap.size p tc (.slice ao p.bys.length cap)) := ⟨HD3.out.1.trans (b3.mono HD3.out.1.size), HD3.out.2.later b3 HD3.out.2.lt⟩
  clear b3
  refine hK.out _ _ (HW2.out.2.held hl16) (fun hHeld => ?_)
  clear hK K
  refine tkV 5 (v := ?_) rfl (Or.inl ⟨by rfl, ?_⟩) ?_
  rotate_left
  · (intro w hSw; (try dsimp only at hSw); go_simp) <;> with_reducible rfl
  try simp only [Act.put, sA, sB, sC]
  refine wpAnyH_done (by kernel_rfl) ?_ _
  clear hHeld HD3 HW1
  obtain ⟨b, hb⟩ : ∃ b, b = rConn p.lb p.lt (hasB T 108) := ⟨_, rfl⟩
  rw [← hb]
  have HBB : Hid _ := hb
  clear hb
  go_upto_region 4 with fail
  have HD4 : Hid (Below w.heap.size w w3.drew ∧ PkAt w3.drew w.heap.size p tc (.slice ao p.bys.length cap)) := ⟨HW2.out.1.trans ((below_drewN (Below.refl _ _) 1).mono HW2.out.1.size), HW2.out.2⟩
  refine wp_region_held_drew (S := (fun W => W.cell? ⟨w.heap.size, 1, none⟩ = some (.int .u32 p.cb) ∧ W.cell? ⟨w.heap.size, 2, none⟩ = some (.int .u32 p.ct) ∧ W.cell? ⟨w.heap.size, 3, none⟩ = some (.int .u32 p.lb) ∧ W.cell? ⟨w.heap.size, 4, none⟩ = some (.int .u32 p.lt) ∧ W.cell? ⟨w.heap.size, 5, none⟩ = some (.int .i64 p.place) ∧ W.cell? ⟨w.heap.size, 6, none⟩ = some (.int .u32 p.ep) ∧ W.cell? ⟨w.heap.size, 7, none⟩ = some (.int .u32 p.cur) ∧ W.cell? ⟨w.heap.size, 8, none⟩ = some (.int .u32 p.ze) ∧ W.cell? ⟨w.heap.size, 9, none⟩ = some (.int .u32 p.zn) ∧ W.cell? ⟨w.heap.size, 10, none⟩ = some (.int .u32 p.pe) ∧ W.cell? ⟨w.heap.size, 11, none⟩ = some (.int .u32 p.pn) ∧ W.cell? ⟨w.heap.size, 12, none⟩ = some (.bool p.cnt) ∧ W.cell? ⟨w.heap.size, 13, none⟩ = some (.bool p.fin) ∧ W.cell? ⟨w.heap.size, 30, none⟩ = some (.slice ao p.bys.length cap) ∧ W.cell? ⟨w.heap.size, 31, none⟩ = some (.int .i64 p.ses) ∧ W.rangeAt w.heap.size 14 tc)) (by kernel_rfl) ?_ (fun hHeld => ?_)
  · exact HD4.out.2.held hl16
  refine tkV 0 (v := ?_) rfl (Or.inl ⟨by rfl, ?_⟩) ?_
  rotate_left
  · (intro w hSw; (try dsimp only at hSw); go_simp) <;> with_reducible rfl
  try simp only [Act.put, sA, sB, sC]
  refine tkV 1 (v := ?_) rfl (Or.inl ⟨by rfl, ?_⟩) ?_
  rotate_left
  · (intro w hSw; (try dsimp only at hSw); go_simp) <;> with_reducible rfl
  try simp only [Act.put, sA, sB, sC]
  refine tkV 2 (v := ?_) rfl (Or.inl ⟨by rfl, ?_⟩) ?_
  rotate_left
  · (intro w hSw; (try dsimp only at hSw); go_simp) <;> with_reducible rfl
  try simp only [Act.put, sA, sB, sC]
  refine wpAnyH_ready (rs := [3]) (by kernel_rfl) (by simp) ?_
  refine acV 3 rfl (fun K hK => ?_) AllReadyH.nil
  go_simp
  refine (has15_any T 122 _ HT.out).mono ?_
  rintro _ wq ⟨rfl, hq⟩
  rw [hq]
  clear hq wq
  refine hK.out _ _ (by assumption) (fun hHeld => ?_)
  clear hK K
  refine wpAnyH_ready (rs := [4]) (by kernel_rfl) (by simp) ?_
  refine acV 4 rfl (fun K hK => ?_) AllReadyH.nil
  go_simp
  refine (rZx_any _ _ _ _).mono ?_
  rintro _ w4 ⟨rfl, b4⟩
  have HW3 : Hid (Below w.heap.size w w4 ∧ PkAt w4 w.heap.size p tc (.slice ao p.bys.length cap)) := ⟨HD4.out.1.trans (b4.mono HD4.out.1.size), HD4.out.2.later b4 HD4.out.2.lt⟩
  clear b4
  refine hK.out _ _ (HW3.out.2.held hl16) (fun hHeld => ?_)
  clear hK K
  refine tkV 5 (v := ?_) rfl (Or.inl ⟨by rfl, ?_⟩) ?_
  rotate_left
  · (intro w hSw; (try dsimp only at hSw); go_simp) <;> with_reducible rfl
  try simp only [Act.put, sA, sB, sC]
  refine wpAnyH_done (by kernel_rfl) ?_ _
  clear hHeld HD4 HW2
  obtain ⟨c, hc⟩ : ∃ c, c = rZx p.ze p.zn (hasB T 122) := ⟨_, rfl⟩
  rw [← hc]
  have HCC : Hid _ := hc
  clear hc
  go_upto_region 5 with fail
  have HD5 : Hid (Below w.heap.size w w4.drew ∧ PkAt w4.drew w.heap.size p tc (.slice ao p.bys.length cap)) := ⟨HW3.out.1.trans ((below_drewN (Below.refl _ _) 1).mono HW3.out.1.size), HW3.out.2⟩
  refine wp_region_held_drew (S := (fun W => W.cell? ⟨w.heap.size, 1, none⟩ = some (.int .u32 p.cb) ∧ W.cell? ⟨w.heap.size, 2, none⟩ = some (.int .u32 p.ct) ∧ W.cell? ⟨w.heap.size, 3, none⟩ = some (.int .u32 p.lb) ∧ W.cell? ⟨w.heap.size, 4, none⟩ = some (.int .u32 p.lt) ∧ W.cell? ⟨w.heap.size, 5, none⟩ = some (.int .i64 p.place) ∧ W.cell? ⟨w.heap.size, 6, none⟩ = some (.int .u32 p.ep) ∧ W.cell? ⟨w.heap.size, 7, none⟩ = some (.int .u32 p.cur) ∧ W.cell? ⟨w.heap.size, 8, none⟩ = some (.int .u32 p.ze) ∧ W.cell? ⟨w.heap.size, 9, none⟩ = some (.int .u32 p.zn) ∧ W.cell? ⟨w.heap.size, 10, none⟩ = some (.int .u32 p.pe) ∧ W.cell? ⟨w.heap.size, 11, none⟩ = some (.int .u32 p.pn) ∧ W.cell? ⟨w.heap.size, 12, none⟩ = some (.bool p.cnt) ∧ W.cell? ⟨w.heap.size, 13, none⟩ = some (.bool p.fin) ∧ W.cell? ⟨w.heap.size, 30, none⟩ = some (.slice ao p.bys.length cap) ∧ W.cell? ⟨w.heap.size, 31, none⟩ = some (.int .i64 p.ses) ∧ W.rangeAt w.heap.size 14 tc)) (by kernel_rfl) ?_ (fun hHeld => ?_)
  · exact HD5.out.2.held hl16
  refine tkV 0 (v := ?_) rfl (Or.inl ⟨by rfl, ?_⟩) ?_
  rotate_left
  · (intro w hSw; (try dsimp only at hSw); go_simp) <;> with_reducible rfl
  try simp only [Act.put, sA, sB, sC]
  refine tkV 1 (v := ?_) rfl (Or.inl ⟨by rfl, ?_⟩) ?_
  rotate_left
  · (intro w hSw; (try dsimp only at hSw); go_simp) <;> with_reducible rfl
  try simp only [Act.put, sA, sB, sC]
  refine tkV 2 (v := ?_) rfl (Or.inl ⟨by rfl, ?_⟩) ?_
  rotate_left
  · (intro w hSw; (try dsimp only at hSw); go_simp) <;> with_reducible rfl
  try simp only [Act.put, sA, sB, sC]
  refine wpAnyH_ready (rs := [3]) (by kernel_rfl) (by simp) ?_
  refine acV 3 rfl (fun K hK => ?_) AllReadyH.nil
  go_simp
  refine (has15_any T 118 _ HT.out).mono ?_
  rintro _ wq ⟨rfl, hq⟩
  rw [hq]
  clear hq wq
  refine hK.out _ _ (by assumption) (fun hHeld => ?_)
  clear hK K
  refine wpAnyH_ready (rs := [4]) (by kernel_rfl) (by simp) ?_
  refine acV 4 rfl (fun K hK => ?_) AllReadyH.nil
  go_simp
  refine (rZx_any _ _ _ _).mono ?_
  rintro _ w5 ⟨rfl, b5⟩
  have HW4 : Hid (Below w.heap.size w w5 ∧ PkAt w5 w.heap.size p tc (.slice ao p.bys.length cap)) := ⟨HD5.out.1.trans (b5.mono HD5.out.1.size), HD5.out.2.later b5 HD5.out.2.lt⟩
  clear b5
  refine hK.out _ _ (HW4.out.2.held hl16) (fun hHeld => ?_)
  clear hK K
  refine tkV 5 (v := ?_) rfl (Or.inl ⟨by rfl, ?_⟩) ?_
  rotate_left
  · (intro w hSw; (try dsimp only at hSw); go_simp) <;> with_reducible rfl
  try simp only [Act.put, sA, sB, sC]
  refine wpAnyH_done (by kernel_rfl) ?_ _
  clear hHeld HD5 HW3
  obtain ⟨d, hd⟩ : ∃ d, d = rZx p.pe p.pn (hasB T 118) := ⟨_, rfl⟩
  rw [← hd]
  have HDD : Hid _ := hd
  clear hd
  go_upto_region 6 with fail
  obtain ⟨e0, he0⟩ : ∃ x, (T.toList == []) = x := ⟨_, rfl⟩
  obtain ⟨x5, hx5⟩ : ∃ x, decide (p.place < 0) = x := ⟨_, rfl⟩
  obtain ⟨x6, hx6⟩ : ∃ x, decide (0 < p.place) = x := ⟨_, rfl⟩
  obtain ⟨hp, hhp⟩ : ∃ x, hasB T 112 = x := ⟨_, rfl⟩
  have H6 : Hid (dA e0 a b c d x5 x6 hp = dA (T.toList == []) a b c d (decide (p.place < 0)) (decide (0 < p.place)) (hasB T 112)) := by show _ = _; rw [he0, hx5, hx6, hhp]
  have c5 : w5.cell? ⟨w.heap.size, 5, none⟩ = some (.int .i64 p.place) := pk_at HW4.out.2 rfl
  go_cut [68] from 36 to 67 (fun s wx => s = .bool (dA e0 a b c d x5 x6 hp) ∧ wx = w5)
  case first =>
    cases e0 with
    | true =>
      go_wp2_with fail
      go_meet
      exact ⟨rfl, rfl⟩
    | false =>
      cases a with
      | false =>
        go_wp2_with fail
        go_meet
        exact ⟨rfl, rfl⟩
      | true =>
        cases b with
        | false =>
          go_wp2_with fail
          go_meet
          exact ⟨rfl, rfl⟩
        | true =>
          cases c with
          | false =>
            go_wp2_with fail
            go_meet
            exact ⟨rfl, rfl⟩
          | true =>
            cases d with
            | false =>
              go_wp2_with fail
              go_meet
              exact ⟨rfl, rfl⟩
            | true =>
              cases x5 with
              | true =>
                go_wp2_with fail
                go_meet
                exact ⟨rfl, rfl⟩
              | false =>
                cases x6 with
                | true =>
                  go_wp2_with fail
                  refine (has15_any T 112 _ HT.out).mono ?_
                  rintro _ wq ⟨rfl, hq⟩
                  rw [hq, hhp]
                  clear hq wq
                  cases hp with
                  | false =>
                    go_wp2_with fail
                    go_meet
                    exact ⟨rfl, rfl⟩
                  | true =>
                    go_wp2_with fail
                    go_meet
                    exact ⟨rfl, rfl⟩
                | false =>
                  go_wp2_with fail
                  go_meet
                  exact ⟨rfl, rfl⟩
  case rest =>
  obtain ⟨rfl, hwc⟩ := hcut
  rw [hwc]
  clear hwc c5
  have HDOC : Hid (docB p tz = (!dA e0 a b c d x5 x6 hp && !dB (decide (p.ep < (if hasB T 101 = true then (if p.kind = 1 then 0 else 1) else 0))) (decide ((if hasB T 101 = true then 2147483647 else 0) < p.ep)) (decide (2147483647 < p.cur)) (decide (0 < p.cur)) (hasB T 117) p.cnt (hasB T 111) p.fin (hasB T 102) && !dC (hasB T 115) (p.ses != 0) (decide (p.ses < 0)) (hasB T 98) (decide (0 < p.bys.length)) (decide (4096 < p.bys.length)) && !dD (p.kind == 11) (p.kind == 12) (p.zn == 0) && (if hasB T 116 = true then !dE (txOk p.tx) (p.kind != 13) (decide (0 < zcmp p.tx.ep p.tx.n p.pe p.pn)) (p.kind == 13) (p.tx.n != 0) (decide (p.tx.num < 1)) else tz))) := by
    show _ = _
    unfold docB
    rw [← HTE.out, ← HAA.out, ← HBB.out, ← HCC.out, ← HDD.out, ← H6.out]
  clear HAA HBB HCC HDD H6 HTE he0 hx5 hx6 hhp
  obtain ⟨D1, hD1⟩ : ∃ x, dA e0 a b c d x5 x6 hp = x := ⟨_, rfl⟩
  rw [hD1]
  rw [hD1] at HDOC
  clear hD1
  cases D1 with
  | true =>
    have HF : Hid (E = 150) := by
      show E = 150
      rw [HEE.out, HDOC.out, if_neg (by simp)]
    go_wp2_with fail
    go_ret
    exact ⟨by rw [HF.out]; rfl, HW4.out.1⟩
  | false =>
  have c0 : w5.cell? ⟨w.heap.size, 0, none⟩ = some (.int .i8 p.kind) := pk_at HW4.out.2 rfl
  go_upto_if 71 with fail
  go_cut [8] from 69 to 71 (fun s wx => s = .int .u32 (if p.kind = 1 then 0 else 1) ∧ wx = w5)
  case first =>
    by_cases k1 : p.kind = 1
    · have k1' : (p.kind == 1) = true := by simp [k1]
      have HQ : Hid ((if p.kind = 1 then (0 : Int) else 1) = 0) := if_pos k1
      clear k1
      go_wp2_with fail
      go_meet
      exact ⟨by rw [HQ.out], rfl⟩
    · have k1' : (p.kind == 1) = false := by simp [k1]
      have HQ : Hid ((if p.kind = 1 then (0 : Int) else 1) = 1) := if_neg k1
      clear k1
      go_wp2_with fail
      go_meet
      exact ⟨by rw [HQ.out], rfl⟩
  case rest =>
  obtain ⟨rfl, hwc⟩ := hcut
  rw [hwc]
  clear hwc c0
  obtain ⟨K1, hK1⟩ : ∃ x : Int, (if p.kind = 1 then (0 : Int) else 1) = x := ⟨_, rfl⟩
  rw [hK1]
  rw [hK1] at HDOC
  clear hK1
  go_wp2_with fail
  refine (has15_any T 101 _ HT.out).mono ?_
  rintro _ wq ⟨rfl, hq⟩
  rw [hq]
  clear hq wq
  obtain ⟨he, hhe⟩ : ∃ x, hasB T 101 = x := ⟨_, rfl⟩
  rw [hhe]
  rw [hhe] at HDOC
  clear hhe
  go_upto_if 74 with fail
  obtain ⟨L1, hL1⟩ : ∃ x : Int, (if he = true then K1 else 0) = x := ⟨_, rfl⟩
  obtain ⟨M1, hM1⟩ : ∃ x : Int, (if he = true then (2147483647 : Int) else 0) = x := ⟨_, rfl⟩
  rw [hL1, hM1] at HDOC
  have HLM : Hid ((if he = true then K1 else 0) = L1 ∧ (if he = true then (2147483647 : Int) else 0) = M1) := ⟨hL1, hM1⟩
  clear hL1 hM1
  go_cut [8, 9] from 72 to 74 (fun s t wx => s = .int .u32 L1 ∧ t = .int .u32 M1 ∧ wx = w5)
  case first =>
    cases he
    · go_wp2_with fail
      go_meet
      exact ⟨by rw [← HLM.out.1]; rfl, by rw [← HLM.out.2]; rfl, rfl⟩
    · go_wp2_with fail
      go_meet
      exact ⟨by rw [← HLM.out.1]; rfl, by rw [← HLM.out.2]; rfl, rfl⟩
  case rest =>
  obtain ⟨rfl, rfl, hwc⟩ := hcut
  rw [hwc]
  clear hwc HLM
  obtain ⟨y1, hy1⟩ : ∃ x, decide (p.ep < L1) = x := ⟨_, rfl⟩
  obtain ⟨y2, hy2⟩ : ∃ x, decide (M1 < p.ep) = x := ⟨_, rfl⟩
  obtain ⟨y3, hy3⟩ : ∃ x, decide (2147483647 < p.cur) = x := ⟨_, rfl⟩
  obtain ⟨y4, hy4⟩ : ∃ x, decide (0 < p.cur) = x := ⟨_, rfl⟩
  obtain ⟨hu, hhu⟩ : ∃ x, hasB T 117 = x := ⟨_, rfl⟩
  obtain ⟨cn, hcn⟩ : ∃ x, p.cnt = x := ⟨_, rfl⟩
  obtain ⟨ho, hho⟩ : ∃ x, hasB T 111 = x := ⟨_, rfl⟩
  obtain ⟨fi, hfi⟩ : ∃ x, p.fin = x := ⟨_, rfl⟩
  obtain ⟨hf, hhf⟩ : ∃ x, hasB T 102 = x := ⟨_, rfl⟩
  rw [hy1, hy2, hy3, hy4, hhu, hcn, hho, hfi, hhf] at HDOC
  have c6 : w5.cell? ⟨w.heap.size, 6, none⟩ = some (.int .u32 p.ep) := pk_at HW4.out.2 rfl
  have c7 : w5.cell? ⟨w.heap.size, 7, none⟩ = some (.int .u32 p.cur) := pk_at HW4.out.2 rfl
  have c12 : w5.cell? ⟨w.heap.size, 12, none⟩ = some (.bool cn) := by rw [← hcn]; exact pk_at HW4.out.2 rfl
  have c13 : w5.cell? ⟨w.heap.size, 13, none⟩ = some (.bool fi) := by rw [← hfi]; exact pk_at HW4.out.2 rfl
  clear hcn hfi
  go_upto_region 15 with fail
  go_cut [117] from 75 to 116 (fun s wx => s = .bool (dB y1 y2 y3 y4 hu cn ho fi hf) ∧ wx = w5)
  case first => as_aux_lemma =>
    cases y1 with
    | true =>
      go_wp2_with fail
      go_meet
      exact ⟨rfl, rfl⟩
    | false =>
      cases y2 with
      | true =>
        go_wp2_with fail
        go_meet
        exact ⟨rfl, rfl⟩
      | false =>
        cases y3 with
        | true =>
          go_wp2_with fail
          go_meet
          exact ⟨rfl, rfl⟩
        | false =>
          cases y4 with
          | true =>
            go_wp2_with fail
            refine (has15_any T 117 _ HT.out).mono ?_
            rintro _ wq ⟨rfl, hq⟩
            rw [hq, hhu]
            clear hq wq
            cases hu with
            | false =>
              go_wp2_with fail
              go_meet
              exact ⟨rfl, rfl⟩
            | true =>
              cases cn with
              | true =>
                go_wp2_with fail
                refine (has15_any T 111 _ HT.out).mono ?_
                rintro _ wq ⟨rfl, hq⟩
                rw [hq, hho]
                clear hq wq
                cases ho with
                | false =>
                  go_wp2_with fail
                  go_meet
                  exact ⟨rfl, rfl⟩
                | true =>
                  cases fi with
                  | true =>
                    go_wp2_with fail
                    refine (has15_any T 102 _ HT.out).mono ?_
                    rintro _ wq ⟨rfl, hq⟩
                    rw [hq, hhf]
                    clear hq wq
                    cases hf with
                    | false =>
                      go_wp2_with fail
                      go_meet
                      exact ⟨rfl, rfl⟩
                    | true =>
                      go_wp2_with fail
                      go_meet
                      exact ⟨rfl, rfl⟩
                  | false =>
                    go_wp2_with fail
                    go_meet
                    exact ⟨rfl, rfl⟩
              | false =>
                cases fi with
                | true =>
                  go_wp2_with fail
                  refine (has15_any T 102 _ HT.out).mono ?_
                  rintro _ wq ⟨rfl, hq⟩
                  rw [hq, hhf]
                  clear hq wq
                  cases hf with
                  | false =>
                    go_wp2_with fail
                    go_meet
                    exact ⟨rfl, rfl⟩
                  | true =>
                    go_wp2_with fail
                    go_meet
                    exact ⟨rfl, rfl⟩
                | false =>
                  go_wp2_with fail
                  go_meet
                  exact ⟨rfl, rfl⟩
          | false =>
            cases cn with
            | true =>
              go_wp2_with fail
              refine (has15_any T 111 _ HT.out).mono ?_
              rintro _ wq ⟨rfl, hq⟩
              rw [hq, hho]
              clear hq wq
              cases ho with
              | false =>
                go_wp2_with fail
                go_meet
                exact ⟨rfl, rfl⟩
              | true =>
                cases fi with
                | true =>
                  go_wp2_with fail
                  refine (has15_any T 102 _ HT.out).mono ?_
                  rintro _ wq ⟨rfl, hq⟩
                  rw [hq, hhf]
                  clear hq wq
                  cases hf with
                  | false =>
                    go_wp2_with fail
                    go_meet
                    exact ⟨rfl, rfl⟩
                  | true =>
                    go_wp2_with fail
                    go_meet
                    exact ⟨rfl, rfl⟩
                | false =>
                  go_wp2_with fail
                  go_meet
                  exact ⟨rfl, rfl⟩
            | false =>
              cases fi with
              | true =>
                go_wp2_with fail
                refine (has15_any T 102 _ HT.out).mono ?_
                rintro _ wq ⟨rfl, hq⟩
                rw [hq, hhf]
                clear hq wq
                cases hf with
                | false =>
                  go_wp2_with fail
                  go_meet
                  exact ⟨rfl, rfl⟩
                | true =>
                  go_wp2_with fail
                  go_meet
                  exact ⟨rfl, rfl⟩
              | false =>
                go_wp2_with fail
                go_meet
                exact ⟨rfl, rfl⟩
  case rest =>
  obtain ⟨rfl, hwc⟩ := hcut
  rw [hwc]
  clear hwc c6 c7 c12 c13 hy1 hy2 hy3 hy4 hhu hho hhf
  obtain ⟨D2, hD2⟩ : ∃ x, dB y1 y2 y3 y4 hu cn ho fi hf = x := ⟨_, rfl⟩
  rw [hD2]
  rw [hD2] at HDOC
  clear hD2
  cases D2 with
  | true =>
    have HF : Hid (E = 150) := by
      show E = 150
      rw [HEE.out, HDOC.out, if_neg (by simp)]
    go_wp2_with fail
    go_ret
    exact ⟨by rw [HF.out]; rfl, HW4.out.1⟩
  | false =>
  go_upto_region 17 with fail
  obtain ⟨f1, hf1⟩ : ∃ x, hasB T 115 = x := ⟨_, rfl⟩
  obtain ⟨f2, hf2⟩ : ∃ x, (p.ses != 0) = x := ⟨_, rfl⟩
  obtain ⟨s3, hs3⟩ : ∃ x, decide (p.ses < 0) = x := ⟨_, rfl⟩
  obtain ⟨f4, hf4⟩ : ∃ x, hasB T 98 = x := ⟨_, rfl⟩
  obtain ⟨f5, hf5⟩ : ∃ x, decide (0 < p.bys.length) = x := ⟨_, rfl⟩
  obtain ⟨x7, hx7⟩ : ∃ x, decide (4096 < p.bys.length) = x := ⟨_, rfl⟩
  rw [hf1, hf2, hs3, hf4, hf5, hx7] at HDOC
  have hf5' : decide ((0 : Int) < (p.bys.length : Int)) = f5 := by rw [← hf5]; exact decide_eq_decide.2 (by omega)
  have hx7' : decide ((4096 : Int) < (p.bys.length : Int)) = x7 := by rw [← hx7]; exact decide_eq_decide.2 (by omega)
  have HD5 : Hid (Below w.heap.size w w5.drew ∧ PkAt w5.drew w.heap.size p tc (.slice ao p.bys.length cap)) := ⟨HW4.out.1.trans ((below_drewN (Below.refl _ _) 1).mono HW4.out.1.size), HW4.out.2⟩
  go_cut [143] from 118 to 142 (fun s wx => s = .bool (dC f1 f2 s3 f4 f5 x7) ∧ wx = w5.drew)
  case first => as_aux_lemma =>
    cases h6 : (f1 != f2) with
    | true =>
      refine wp_region_held_drew (S := (fun W => W.cell? ⟨w.heap.size, 1, none⟩ = some (.int .u32 p.cb) ∧ W.cell? ⟨w.heap.size, 2, none⟩ = some (.int .u32 p.ct) ∧ W.cell? ⟨w.heap.size, 3, none⟩ = some (.int .u32 p.lb) ∧ W.cell? ⟨w.heap.size, 4, none⟩ = some (.int .u32 p.lt) ∧ W.cell? ⟨w.heap.size, 5, none⟩ = some (.int .i64 p.place) ∧ W.cell? ⟨w.heap.size, 6, none⟩ = some (.int .u32 p.ep) ∧ W.cell? ⟨w.heap.size, 7, none⟩ = some (.int .u32 p.cur) ∧ W.cell? ⟨w.heap.size, 8, none⟩ = some (.int .u32 p.ze) ∧ W.cell? ⟨w.heap.size, 9, none⟩ = some (.int .u32 p.zn) ∧ W.cell? ⟨w.heap.size, 10, none⟩ = some (.int .u32 p.pe) ∧ W.cell? ⟨w.heap.size, 11, none⟩ = some (.int .u32 p.pn) ∧ W.cell? ⟨w.heap.size, 12, none⟩ = some (.bool p.cnt) ∧ W.cell? ⟨w.heap.size, 13, none⟩ = some (.bool p.fin) ∧ W.cell? ⟨w.heap.size, 30, none⟩ = some (.slice ao p.bys.length cap) ∧ W.cell? ⟨w.heap.size, 31, none⟩ = some (.int .i64 p.ses) ∧ W.rangeAt w.heap.size 14 tc)) (by kernel_rfl) ?_ (fun hHeld => ?_)
      · exact HD5.out.2.held hl16
      refine tkV 0 (v := ?_) rfl (Or.inl ⟨by rfl, ?_⟩) ?_
      rotate_left
      · (intro w hSw; (try dsimp only at hSw); go_simp) <;> with_reducible rfl
      try simp only [Act.put, sA, sB, sC]
      refine tkV 2 (v := ?_) rfl (Or.inl ⟨by rfl, ?_⟩) ?_
      rotate_left
      · (intro w hSw; (try dsimp only at hSw); go_simp) <;> with_reducible rfl
      try simp only [Act.put, sA, sB, sC]
      refine tkV 3 (v := ?_) rfl (Or.inl ⟨by rfl, ?_⟩) ?_
      rotate_left
      · (intro w hSw; (try dsimp only at hSw); go_simp) <;> with_reducible rfl
      try simp only [Act.put, sA, sB, sC]
      refine tkV 4 (v := ?_) rfl (Or.inl ⟨by rfl, ?_⟩) ?_
      rotate_left
      · (intro w hSw; (try dsimp only at hSw); go_simp) <;> with_reducible rfl
      try simp only [Act.put, sA, sB, sC]
      refine wpAnyH_ready (rs := [1]) (by kernel_rfl) (by simp) ?_
      refine acV 1 rfl (fun K hK => ?_) AllReadyH.nil
      go_simp
      refine (has15_any T 115 _ HT.out).mono ?_
      rintro _ wq ⟨rfl, hq⟩
      rw [hq, hf1]
      clear hq wq
      refine hK.out _ _ (by assumption) (fun hHeld => ?_)
      clear hK K
      refine wpAnyH_take (i := 5) (oi := { dst := some 123, op := Op.binOp BinOp.neq 4 (Operand.tmp 119) (Operand.tmp 122) 4, type := 4, pos := "ref.go:82", after := #[{ on := 1, ground := Ground.data }, { on := 4, ground := Ground.data }], guard := none }) (v := .bool true) rfl (by kernel_rfl) (by kernel_rfl) (by kernel_rfl) (fun _ _ _ h => h) (Or.inl ⟨by rfl, fun w' hSw => by cases f1 <;> cases f2 <;> first | (simp at h6; done) | go_simp⟩) (by assumption) ?_
      try simp only [Act.put, sA, sB, sC]
      refine tkV 6 (v := ?_) rfl (Or.inl ⟨by rfl, ?_⟩) ?_
      rotate_left
      · (intro w hSw; (try dsimp only at hSw); go_simp) <;> with_reducible rfl
      try simp only [Act.put, sA, sB, sC]
      refine tkV 7 (v := undef) rfl (Or.inr ⟨by rfl, rfl⟩) ?_
      try simp only [Act.put, sA, sB, sC]
      refine tkV 8 (v := undef) rfl (Or.inr ⟨by rfl, rfl⟩) ?_
      try simp only [Act.put, sA, sB, sC]
      refine tkV 9 (v := undef) rfl (Or.inr ⟨by rfl, rfl⟩) ?_
      try simp only [Act.put, sA, sB, sC]
      refine tkV 10 (v := ?_) rfl (Or.inl ⟨by rfl, ?_⟩) ?_
      rotate_left
      · (intro w hSw; (try dsimp only at hSw); go_simp) <;> with_reducible rfl
      try simp only [Act.put, sA, sB, sC]
      refine tkV 11 (v := ?_) rfl (Or.inl ⟨by rfl, ?_⟩) ?_
      rotate_left
      · (intro w hSw; (try dsimp only at hSw); go_simp) <;> with_reducible rfl
      try simp only [Act.put, sA, sB, sC]
      refine tkV 12 (v := undef) rfl (Or.inr ⟨by rfl, rfl⟩) ?_
      try simp only [Act.put, sA, sB, sC]
      refine tkV 14 (v := undef) rfl (Or.inr ⟨by rfl, rfl⟩) ?_
      try simp only [Act.put, sA, sB, sC]
      refine tkV 15 (v := undef) rfl (Or.inr ⟨by rfl, rfl⟩) ?_
      try simp only [Act.put, sA, sB, sC]
      refine tkV 16 (v := undef) rfl (Or.inr ⟨by rfl, rfl⟩) ?_
      try simp only [Act.put, sA, sB, sC]
      refine tkV 17 (v := undef) rfl (Or.inr ⟨by rfl, rfl⟩) ?_
      try simp only [Act.put, sA, sB, sC]
      refine wpAnyH_ready (rs := [13]) (by kernel_rfl) (by simp) ?_
      refine acV 13 rfl (fun K hK => ?_) AllReadyH.nil
      go_simp
      refine hK.out _ _ (by assumption) (fun _ => ?_)
      clear hK K
      refine tkV 18 (v := undef) rfl (Or.inr ⟨by rfl, rfl⟩) ?_
      try simp only [Act.put, sA, sB, sC]
      refine tkV 19 (v := ?_) rfl (Or.inl ⟨by rfl, ?_⟩) ?_
      rotate_left
      · (intro w hSw; (try dsimp only at hSw); go_simp) <;> with_reducible rfl
      try simp only [Act.put, sA, sB, sC]
      refine tkV 20 (v := ?_) rfl (Or.inl ⟨by rfl, ?_⟩) ?_
      rotate_left
      · (intro w hSw; (try dsimp only at hSw); go_simp) <;> with_reducible rfl
      try simp only [Act.put, sA, sB, sC]
      refine tkV 21 (v := undef) rfl (Or.inr ⟨by rfl, rfl⟩) ?_
      try simp only [Act.put, sA, sB, sC]
      refine tkV 22 (v := undef) rfl (Or.inr ⟨by rfl, rfl⟩) ?_
      try simp only [Act.put, sA, sB, sC]
      refine tkV 23 (v := undef) rfl (Or.inr ⟨by rfl, rfl⟩) ?_
      try simp only [Act.put, sA, sB, sC]
      refine tkV 24 (v := undef) rfl (Or.inr ⟨by rfl, rfl⟩) ?_
      try simp only [Act.put, sA, sB, sC]
      refine tkV 25 (v := ?_) rfl (Or.inl ⟨by rfl, ?_⟩) ?_
      rotate_left
      · (intro w hSw; (try dsimp only at hSw); go_simp) <;> with_reducible rfl
      try simp only [Act.put, sA, sB, sC]
      refine wpAnyH_done (by kernel_rfl) ?_ _
      go_wp2_with fail
      go_meet
      exact ⟨by unfold dC; rw [h6]; rfl, rfl⟩
    | false =>
      cases s3 with
      | true =>
        refine wp_region_held_drew (S := (fun W => W.cell? ⟨w.heap.size, 1, none⟩ = some (.int .u32 p.cb) ∧ W.cell? ⟨w.heap.size, 2, none⟩ = some (.int .u32 p.ct) ∧ W.cell? ⟨w.heap.size, 3, none⟩ = some (.int .u32 p.lb) ∧ W.cell? ⟨w.heap.size, 4, none⟩ = some (.int .u32 p.lt) ∧ W.cell? ⟨w.heap.size, 5, none⟩ = some (.int .i64 p.place) ∧ W.cell? ⟨w.heap.size, 6, none⟩ = some (.int .u32 p.ep) ∧ W.cell? ⟨w.heap.size, 7, none⟩ = some (.int .u32 p.cur) ∧ W.cell? ⟨w.heap.size, 8, none⟩ = some (.int .u32 p.ze) ∧ W.cell? ⟨w.heap.size, 9, none⟩ = some (.int .u32 p.zn) ∧ W.cell? ⟨w.heap.size, 10, none⟩ = some (.int .u32 p.pe) ∧ W.cell? ⟨w.heap.size, 11, none⟩ = some (.int .u32 p.pn) ∧ W.cell? ⟨w.heap.size, 12, none⟩ = some (.bool p.cnt) ∧ W.cell? ⟨w.heap.size, 13, none⟩ = some (.bool p.fin) ∧ W.cell? ⟨w.heap.size, 30, none⟩ = some (.slice ao p.bys.length cap) ∧ W.cell? ⟨w.heap.size, 31, none⟩ = some (.int .i64 p.ses) ∧ W.rangeAt w.heap.size 14 tc)) (by kernel_rfl) ?_ (fun hHeld => ?_)
        · exact HD5.out.2.held hl16
        refine tkV 0 (v := ?_) rfl (Or.inl ⟨by rfl, ?_⟩) ?_
        rotate_left
        · (intro w hSw; (try dsimp only at hSw); go_simp) <;> with_reducible rfl
        try simp only [Act.put, sA, sB, sC]
        refine tkV 2 (v := ?_) rfl (Or.inl ⟨by rfl, ?_⟩) ?_
        rotate_left
        · (intro w hSw; (try dsimp only at hSw); go_simp) <;> with_reducible rfl
        try simp only [Act.put, sA, sB, sC]
        refine tkV 3 (v := ?_) rfl (Or.inl ⟨by rfl, ?_⟩) ?_
        rotate_left
        · (intro w hSw; (try dsimp only at hSw); go_simp) <;> with_reducible rfl
        try simp only [Act.put, sA, sB, sC]
        refine tkV 4 (v := ?_) rfl (Or.inl ⟨by rfl, ?_⟩) ?_
        rotate_left
        · (intro w hSw; (try dsimp only at hSw); go_simp) <;> with_reducible rfl
        try simp only [Act.put, sA, sB, sC]
        refine wpAnyH_ready (rs := [1]) (by kernel_rfl) (by simp) ?_
        refine acV 1 rfl (fun K hK => ?_) AllReadyH.nil
        go_simp
        refine (has15_any T 115 _ HT.out).mono ?_
        rintro _ wq ⟨rfl, hq⟩
        rw [hq, hf1]
        clear hq wq
        refine hK.out _ _ (by assumption) (fun hHeld => ?_)
        clear hK K
        refine wpAnyH_take (i := 5) (oi := { dst := some 123, op := Op.binOp BinOp.neq 4 (Operand.tmp 119) (Operand.tmp 122) 4, type := 4, pos := "ref.go:82", after := #[{ on := 1, ground := Ground.data }, { on := 4, ground := Ground.data }], guard := none }) (v := .bool false) rfl (by kernel_rfl) (by kernel_rfl) (by kernel_rfl) (fun _ _ _ h => h) (Or.inl ⟨by rfl, fun w' hSw => by cases f1 <;> cases f2 <;> first | (simp at h6; done) | go_simp⟩) (by assumption) ?_
        try simp only [Act.put, sA, sB, sC]
        refine tkV 6 (v := ?_) rfl (Or.inl ⟨by rfl, ?_⟩) ?_
        rotate_left
        · (intro w hSw; (try dsimp only at hSw); go_simp) <;> with_reducible rfl
        try simp only [Act.put, sA, sB, sC]
        refine tkV 7 (v := ?_) rfl (Or.inl ⟨by rfl, ?_⟩) ?_
        rotate_left
        · (intro w hSw; (try dsimp only at hSw); go_simp) <;> with_reducible rfl
        try simp only [Act.put, sA, sB, sC]
        refine tkV 8 (v := ?_) rfl (Or.inl ⟨by rfl, ?_⟩) ?_
        rotate_left
        · (intro w hSw; (try dsimp only at hSw); go_simp) <;> with_reducible rfl
        try simp only [Act.put, sA, sB, sC]
        refine tkV 9 (v := ?_) rfl (Or.inl ⟨by rfl, ?_⟩) ?_
        rotate_left
        · (intro w hSw; (try dsimp only at hSw); go_simp) <;> with_reducible rfl
        try simp only [Act.put, sA, sB, sC]
        refine tkV 10 (v := ?_) rfl (Or.inl ⟨by rfl, ?_⟩) ?_
        rotate_left
        · (intro w hSw; (try dsimp only at hSw); go_simp) <;> with_reducible rfl
        try simp only [Act.put, sA, sB, sC]
        refine tkV 11 (v := ?_) rfl (Or.inl ⟨by rfl, ?_⟩) ?_
        rotate_left
        · (intro w hSw; (try dsimp only at hSw); go_simp) <;> with_reducible rfl
        try simp only [Act.put, sA, sB, sC]
        refine tkV 12 (v := undef) rfl (Or.inr ⟨by rfl, rfl⟩) ?_
        try simp only [Act.put, sA, sB, sC]
        refine tkV 14 (v := undef) rfl (Or.inr ⟨by rfl, rfl⟩) ?_
        try simp only [Act.put, sA, sB, sC]
        refine tkV 15 (v := undef) rfl (Or.inr ⟨by rfl, rfl⟩) ?_
        try simp only [Act.put, sA, sB, sC]
        refine tkV 16 (v := undef) rfl (Or.inr ⟨by rfl, rfl⟩) ?_
        try simp only [Act.put, sA, sB, sC]
        refine tkV 17 (v := undef) rfl (Or.inr ⟨by rfl, rfl⟩) ?_
        try simp only [Act.put, sA, sB, sC]
        refine wpAnyH_ready (rs := [13]) (by kernel_rfl) (by simp) ?_
        refine acV 13 rfl (fun K hK => ?_) AllReadyH.nil
        go_simp
        refine hK.out _ _ (by assumption) (fun _ => ?_)
        clear hK K
        refine tkV 18 (v := undef) rfl (Or.inr ⟨by rfl, rfl⟩) ?_
        try simp only [Act.put, sA, sB, sC]
        refine tkV 19 (v := ?_) rfl (Or.inl ⟨by rfl, ?_⟩) ?_
        rotate_left
        · (intro w hSw; (try dsimp only at hSw); go_simp) <;> with_reducible rfl
        try simp only [Act.put, sA, sB, sC]
        refine tkV 20 (v := ?_) rfl (Or.inl ⟨by rfl, ?_⟩) ?_
        rotate_left
        · (intro w hSw; (try dsimp only at hSw); go_simp) <;> with_reducible rfl
        try simp only [Act.put, sA, sB, sC]
        refine tkV 21 (v := undef) rfl (Or.inr ⟨by rfl, rfl⟩) ?_
        try simp only [Act.put, sA, sB, sC]
        refine tkV 22 (v := undef) rfl (Or.inr ⟨by rfl, rfl⟩) ?_
        try simp only [Act.put, sA, sB, sC]
        refine tkV 23 (v := undef) rfl (Or.inr ⟨by rfl, rfl⟩) ?_
        try simp only [Act.put, sA, sB, sC]
        refine tkV 24 (v := undef) rfl (Or.inr ⟨by rfl, rfl⟩) ?_
        try simp only [Act.put, sA, sB, sC]
        refine tkV 25 (v := ?_) rfl (Or.inl ⟨by rfl, ?_⟩) ?_
        rotate_left
        · (intro w hSw; (try dsimp only at hSw); go_simp) <;> with_reducible rfl
        try simp only [Act.put, sA, sB, sC]
        refine wpAnyH_done (by kernel_rfl) ?_ _
        go_wp2_with fail
        go_meet
        exact ⟨by unfold dC; rw [h6]; rfl, rfl⟩
      | false =>
        cases h9 : (f4 != f5) with
        | true =>
          refine wp_region_held_drew (S := (fun W => W.cell? ⟨w.heap.size, 1, none⟩ = some (.int .u32 p.cb) ∧ W.cell? ⟨w.heap.size, 2, none⟩ = some (.int .u32 p.ct) ∧ W.cell? ⟨w.heap.size, 3, none⟩ = some (.int .u32 p.lb) ∧ W.cell? ⟨w.heap.size, 4, none⟩ = some (.int .u32 p.lt) ∧ W.cell? ⟨w.heap.size, 5, none⟩ = some (.int .i64 p.place) ∧ W.cell? ⟨w.heap.size, 6, none⟩ = some (.int .u32 p.ep) ∧ W.cell? ⟨w.heap.size, 7, none⟩ = some (.int .u32 p.cur) ∧ W.cell? ⟨w.heap.size, 8, none⟩ = some (.int .u32 p.ze) ∧ W.cell? ⟨w.heap.size, 9, none⟩ = some (.int .u32 p.zn) ∧ W.cell? ⟨w.heap.size, 10, none⟩ = some (.int .u32 p.pe) ∧ W.cell? ⟨w.heap.size, 11, none⟩ = some (.int .u32 p.pn) ∧ W.cell? ⟨w.heap.size, 12, none⟩ = some (.bool p.cnt) ∧ W.cell? ⟨w.heap.size, 13, none⟩ = some (.bool p.fin) ∧ W.cell? ⟨w.heap.size, 30, none⟩ = some (.slice ao p.bys.length cap) ∧ W.cell? ⟨w.heap.size, 31, none⟩ = some (.int .i64 p.ses) ∧ W.rangeAt w.heap.size 14 tc)) (by kernel_rfl) ?_ (fun hHeld => ?_)
          · exact HD5.out.2.held hl16
          refine tkV 0 (v := ?_) rfl (Or.inl ⟨by rfl, ?_⟩) ?_
          rotate_left
          · (intro w hSw; (try dsimp only at hSw); go_simp) <;> with_reducible rfl
          try simp only [Act.put, sA, sB, sC]
          refine tkV 2 (v := ?_) rfl (Or.inl ⟨by rfl, ?_⟩) ?_
          rotate_left
          · (intro w hSw; (try dsimp only at hSw); go_simp) <;> with_reducible rfl
          try simp only [Act.put, sA, sB, sC]
          refine tkV 3 (v := ?_) rfl (Or.inl ⟨by rfl, ?_⟩) ?_
          rotate_left
          · (intro w hSw; (try dsimp only at hSw); go_simp) <;> with_reducible rfl
          try simp only [Act.put, sA, sB, sC]
          refine tkV 4 (v := ?_) rfl (Or.inl ⟨by rfl, ?_⟩) ?_
          rotate_left
          · (intro w hSw; (try dsimp only at hSw); go_simp) <;> with_reducible rfl
          try simp only [Act.put, sA, sB, sC]
          refine wpAnyH_ready (rs := [1]) (by kernel_rfl) (by simp) ?_
          refine acV 1 rfl (fun K hK => ?_) AllReadyH.nil
          go_simp
          refine (has15_any T 115 _ HT.out).mono ?_
          rintro _ wq ⟨rfl, hq⟩
          rw [hq, hf1]
          clear hq wq
          refine hK.out _ _ (by assumption) (fun hHeld => ?_)
          clear hK K
          refine wpAnyH_take (i := 5) (oi := { dst := some 123, op := Op.binOp BinOp.neq 4 (Operand.tmp 119) (Operand.tmp 122) 4, type := 4, pos := "ref.go:82", after := #[{ on := 1, ground := Ground.data }, { on := 4, ground := Ground.data }], guard := none }) (v := .bool false) rfl (by kernel_rfl) (by kernel_rfl) (by kernel_rfl) (fun _ _ _ h => h) (Or.inl ⟨by rfl, fun w' hSw => by cases f1 <;> cases f2 <;> first | (simp at h6; done) | go_simp⟩) (by assumption) ?_
          try simp only [Act.put, sA, sB, sC]
          refine tkV 6 (v := ?_) rfl (Or.inl ⟨by rfl, ?_⟩) ?_
          rotate_left
          · (intro w hSw; (try dsimp only at hSw); go_simp) <;> with_reducible rfl
          try simp only [Act.put, sA, sB, sC]
          refine tkV 7 (v := ?_) rfl (Or.inl ⟨by rfl, ?_⟩) ?_
          rotate_left
          · (intro w hSw; (try dsimp only at hSw); go_simp) <;> with_reducible rfl
          try simp only [Act.put, sA, sB, sC]
          refine tkV 8 (v := ?_) rfl (Or.inl ⟨by rfl, ?_⟩) ?_
          rotate_left
          · (intro w hSw; (try dsimp only at hSw); go_simp) <;> with_reducible rfl
          try simp only [Act.put, sA, sB, sC]
          refine tkV 9 (v := ?_) rfl (Or.inl ⟨by rfl, ?_⟩) ?_
          rotate_left
          · (intro w hSw; (try dsimp only at hSw); go_simp) <;> with_reducible rfl
          try simp only [Act.put, sA, sB, sC]
          refine tkV 10 (v := ?_) rfl (Or.inl ⟨by rfl, ?_⟩) ?_
          rotate_left
          · (intro w hSw; (try dsimp only at hSw); go_simp) <;> with_reducible rfl
          try simp only [Act.put, sA, sB, sC]
          refine tkV 11 (v := ?_) rfl (Or.inl ⟨by rfl, ?_⟩) ?_
          rotate_left
          · (intro w hSw; (try dsimp only at hSw); go_simp) <;> with_reducible rfl
          try simp only [Act.put, sA, sB, sC]
          refine tkV 12 (v := ?_) rfl (Or.inl ⟨by rfl, ?_⟩) ?_
          rotate_left
          · (intro w hSw; (try dsimp only at hSw); go_simp) <;> with_reducible rfl
          try simp only [Act.put, sA, sB, sC]
          refine tkV 14 (v := ?_) rfl (Or.inl ⟨by rfl, ?_⟩) ?_
          rotate_left
          · (intro w hSw; (try dsimp only at hSw); go_simp) <;> with_reducible rfl
          try simp only [Act.put, sA, sB, sC]
          refine tkV 15 (v := ?_) rfl (Or.inl ⟨by rfl, ?_⟩) ?_
          rotate_left
          · (intro w hSw; (try dsimp only at hSw); go_simp) <;> with_reducible rfl
          try simp only [Act.put, sA, sB, sC]
          refine tkV 16 (v := ?_) rfl (Or.inl ⟨by rfl, ?_⟩) ?_
          rotate_left
          · (intro w hSw; (try dsimp only at hSw); go_simp) <;> with_reducible rfl
          try simp only [Act.put, sA, sB, sC]
          refine tkV 17 (v := ?_) rfl (Or.inl ⟨by rfl, ?_⟩) ?_
          rotate_left
          · (intro w hSw; (try dsimp only at hSw); go_simp) <;> with_reducible rfl
          try simp only [Act.put, sA, sB, sC]
          refine wpAnyH_ready (rs := [13]) (by kernel_rfl) (by simp) ?_
          refine acV 13 rfl (fun K hK => ?_) AllReadyH.nil
          go_simp
          refine (has15_any T 98 _ HT.out).mono ?_
          rintro _ wq ⟨rfl, hq⟩
          rw [hq, hf4]
          clear hq wq
          refine hK.out _ _ (by assumption) (fun hHeld => ?_)
          clear hK K
          refine wpAnyH_take (i := 18) (oi := { dst := some 136, op := Op.binOp BinOp.neq 4 (Operand.tmp 131) (Operand.tmp 135) 4, type := 4, pos := "ref.go:82", after := #[{ on := 13, ground := Ground.data }, { on := 17, ground := Ground.data }, { on := 11, ground := Ground.guard }], guard := some (11, false) }) (v := .bool true) rfl (by kernel_rfl) (by kernel_rfl) (by kernel_rfl) (fun _ _ _ h => h) (Or.inl ⟨by rfl, fun w' hSw => by cases f4 <;> cases f5 <;> first | (simp at h9; done) | go_simp⟩) (by assumption) ?_
          try simp only [Act.put, sA, sB, sC]
          refine tkV 19 (v := ?_) rfl (Or.inl ⟨by rfl, ?_⟩) ?_
          rotate_left
          · (intro w hSw; (try dsimp only at hSw); go_simp) <;> with_reducible rfl
          try simp only [Act.put, sA, sB, sC]
          refine tkV 20 (v := ?_) rfl (Or.inl ⟨by rfl, ?_⟩) ?_
          rotate_left
          · (intro w hSw; (try dsimp only at hSw); go_simp) <;> with_reducible rfl
          try simp only [Act.put, sA, sB, sC]
          refine tkV 21 (v := undef) rfl (Or.inr ⟨by rfl, rfl⟩) ?_
          try simp only [Act.put, sA, sB, sC]
          refine tkV 22 (v := undef) rfl (Or.inr ⟨by rfl, rfl⟩) ?_
          try simp only [Act.put, sA, sB, sC]
          refine tkV 23 (v := undef) rfl (Or.inr ⟨by rfl, rfl⟩) ?_
          try simp only [Act.put, sA, sB, sC]
          refine tkV 24 (v := undef) rfl (Or.inr ⟨by rfl, rfl⟩) ?_
          try simp only [Act.put, sA, sB, sC]
          refine tkV 25 (v := ?_) rfl (Or.inl ⟨by rfl, ?_⟩) ?_
          rotate_left
          · (intro w hSw; (try dsimp only at hSw); go_simp) <;> with_reducible rfl
          try simp only [Act.put, sA, sB, sC]
          refine wpAnyH_done (by kernel_rfl) ?_ _
          go_wp2_with fail
          go_meet
          exact ⟨by unfold dC; rw [h6, h9]; rfl, rfl⟩
        | false =>
          refine wp_region_held_drew (S := (fun W => W.cell? ⟨w.heap.size, 1, none⟩ = some (.int .u32 p.cb) ∧ W.cell? ⟨w.heap.size, 2, none⟩ = some (.int .u32 p.ct) ∧ W.cell? ⟨w.heap.size, 3, none⟩ = some (.int .u32 p.lb) ∧ W.cell? ⟨w.heap.size, 4, none⟩ = some (.int .u32 p.lt) ∧ W.cell? ⟨w.heap.size, 5, none⟩ = some (.int .i64 p.place) ∧ W.cell? ⟨w.heap.size, 6, none⟩ = some (.int .u32 p.ep) ∧ W.cell? ⟨w.heap.size, 7, none⟩ = some (.int .u32 p.cur) ∧ W.cell? ⟨w.heap.size, 8, none⟩ = some (.int .u32 p.ze) ∧ W.cell? ⟨w.heap.size, 9, none⟩ = some (.int .u32 p.zn) ∧ W.cell? ⟨w.heap.size, 10, none⟩ = some (.int .u32 p.pe) ∧ W.cell? ⟨w.heap.size, 11, none⟩ = some (.int .u32 p.pn) ∧ W.cell? ⟨w.heap.size, 12, none⟩ = some (.bool p.cnt) ∧ W.cell? ⟨w.heap.size, 13, none⟩ = some (.bool p.fin) ∧ W.cell? ⟨w.heap.size, 30, none⟩ = some (.slice ao p.bys.length cap) ∧ W.cell? ⟨w.heap.size, 31, none⟩ = some (.int .i64 p.ses) ∧ W.rangeAt w.heap.size 14 tc)) (by kernel_rfl) ?_ (fun hHeld => ?_)
          · exact HD5.out.2.held hl16
          refine tkV 0 (v := ?_) rfl (Or.inl ⟨by rfl, ?_⟩) ?_
          rotate_left
          · (intro w hSw; (try dsimp only at hSw); go_simp) <;> with_reducible rfl
          try simp only [Act.put, sA, sB, sC]
          refine tkV 2 (v := ?_) rfl (Or.inl ⟨by rfl, ?_⟩) ?_
          rotate_left
          · (intro w hSw; (try dsimp only at hSw); go_simp) <;> with_reducible rfl
          try simp only [Act.put, sA, sB, sC]
          refine tkV 3 (v := ?_) rfl (Or.inl ⟨by rfl, ?_⟩) ?_
          rotate_left
          · (intro w hSw; (try dsimp only at hSw); go_simp) <;> with_reducible rfl
          try simp only [Act.put, sA, sB, sC]
          refine tkV 4 (v := ?_) rfl (Or.inl ⟨by rfl, ?_⟩) ?_
          rotate_left
          · (intro w hSw; (try dsimp only at hSw); go_simp) <;> with_reducible rfl
          try simp only [Act.put, sA, sB, sC]
          refine wpAnyH_ready (rs := [1]) (by kernel_rfl) (by simp) ?_
          refine acV 1 rfl (fun K hK => ?_) AllReadyH.nil
          go_simp
          refine (has15_any T 115 _ HT.out).mono ?_
          rintro _ wq ⟨rfl, hq⟩
          rw [hq, hf1]
          clear hq wq
          refine hK.out _ _ (by assumption) (fun hHeld => ?_)
          clear hK K
          refine wpAnyH_take (i := 5) (oi := { dst := some 123, op := Op.binOp BinOp.neq 4 (Operand.tmp 119) (Operand.tmp 122) 4, type := 4, pos := "ref.go:82", after := #[{ on := 1, ground := Ground.data }, { on := 4, ground := Ground.data }], guard := none }) (v := .bool false) rfl (by kernel_rfl) (by kernel_rfl) (by kernel_rfl) (fun _ _ _ h => h) (Or.inl ⟨by rfl, fun w' hSw => by cases f1 <;> cases f2 <;> first | (simp at h6; done) | go_simp⟩) (by assumption) ?_
          try simp only [Act.put, sA, sB, sC]
          refine tkV 6 (v := ?_) rfl (Or.inl ⟨by rfl, ?_⟩) ?_
          rotate_left
          · (intro w hSw; (try dsimp only at hSw); go_simp) <;> with_reducible rfl
          try simp only [Act.put, sA, sB, sC]
          refine tkV 7 (v := ?_) rfl (Or.inl ⟨by rfl, ?_⟩) ?_
          rotate_left
          · (intro w hSw; (try dsimp only at hSw); go_simp) <;> with_reducible rfl
          try simp only [Act.put, sA, sB, sC]
          refine tkV 8 (v := ?_) rfl (Or.inl ⟨by rfl, ?_⟩) ?_
          rotate_left
          · (intro w hSw; (try dsimp only at hSw); go_simp) <;> with_reducible rfl
          try simp only [Act.put, sA, sB, sC]
          refine tkV 9 (v := ?_) rfl (Or.inl ⟨by rfl, ?_⟩) ?_
          rotate_left
          · (intro w hSw; (try dsimp only at hSw); go_simp) <;> with_reducible rfl
          try simp only [Act.put, sA, sB, sC]
          refine tkV 10 (v := ?_) rfl (Or.inl ⟨by rfl, ?_⟩) ?_
          rotate_left
          · (intro w hSw; (try dsimp only at hSw); go_simp) <;> with_reducible rfl
          try simp only [Act.put, sA, sB, sC]
          refine tkV 11 (v := ?_) rfl (Or.inl ⟨by rfl, ?_⟩) ?_
          rotate_left
          · (intro w hSw; (try dsimp only at hSw); go_simp) <;> with_reducible rfl
          try simp only [Act.put, sA, sB, sC]
          refine tkV 12 (v := ?_) rfl (Or.inl ⟨by rfl, ?_⟩) ?_
          rotate_left
          · (intro w hSw; (try dsimp only at hSw); go_simp) <;> with_reducible rfl
          try simp only [Act.put, sA, sB, sC]
          refine tkV 14 (v := ?_) rfl (Or.inl ⟨by rfl, ?_⟩) ?_
          rotate_left
          · (intro w hSw; (try dsimp only at hSw); go_simp) <;> with_reducible rfl
          try simp only [Act.put, sA, sB, sC]
          refine tkV 15 (v := ?_) rfl (Or.inl ⟨by rfl, ?_⟩) ?_
          rotate_left
          · (intro w hSw; (try dsimp only at hSw); go_simp) <;> with_reducible rfl
          try simp only [Act.put, sA, sB, sC]
          refine tkV 16 (v := ?_) rfl (Or.inl ⟨by rfl, ?_⟩) ?_
          rotate_left
          · (intro w hSw; (try dsimp only at hSw); go_simp) <;> with_reducible rfl
          try simp only [Act.put, sA, sB, sC]
          refine tkV 17 (v := ?_) rfl (Or.inl ⟨by rfl, ?_⟩) ?_
          rotate_left
          · (intro w hSw; (try dsimp only at hSw); go_simp) <;> with_reducible rfl
          try simp only [Act.put, sA, sB, sC]
          refine wpAnyH_ready (rs := [13]) (by kernel_rfl) (by simp) ?_
          refine acV 13 rfl (fun K hK => ?_) AllReadyH.nil
          go_simp
          refine (has15_any T 98 _ HT.out).mono ?_
          rintro _ wq ⟨rfl, hq⟩
          rw [hq, hf4]
          clear hq wq
          refine hK.out _ _ (by assumption) (fun hHeld => ?_)
          clear hK K
          refine wpAnyH_take (i := 18) (oi := { dst := some 136, op := Op.binOp BinOp.neq 4 (Operand.tmp 131) (Operand.tmp 135) 4, type := 4, pos := "ref.go:82", after := #[{ on := 13, ground := Ground.data }, { on := 17, ground := Ground.data }, { on := 11, ground := Ground.guard }], guard := some (11, false) }) (v := .bool false) rfl (by kernel_rfl) (by kernel_rfl) (by kernel_rfl) (fun _ _ _ h => h) (Or.inl ⟨by rfl, fun w' hSw => by cases f4 <;> cases f5 <;> first | (simp at h9; done) | go_simp⟩) (by assumption) ?_
          try simp only [Act.put, sA, sB, sC]
          refine tkV 19 (v := ?_) rfl (Or.inl ⟨by rfl, ?_⟩) ?_
          rotate_left
          · (intro w hSw; (try dsimp only at hSw); go_simp) <;> with_reducible rfl
          try simp only [Act.put, sA, sB, sC]
          refine tkV 20 (v := ?_) rfl (Or.inl ⟨by rfl, ?_⟩) ?_
          rotate_left
          · (intro w hSw; (try dsimp only at hSw); go_simp) <;> with_reducible rfl
          try simp only [Act.put, sA, sB, sC]
          refine tkV 21 (v := ?_) rfl (Or.inl ⟨by rfl, ?_⟩) ?_
          rotate_left
          · (intro w hSw; (try dsimp only at hSw); go_simp) <;> with_reducible rfl
          try simp only [Act.put, sA, sB, sC]
          refine tkV 22 (v := ?_) rfl (Or.inl ⟨by rfl, ?_⟩) ?_
          rotate_left
          · (intro w hSw; (try dsimp only at hSw); go_simp) <;> with_reducible rfl
          try simp only [Act.put, sA, sB, sC]
          refine tkV 23 (v := ?_) rfl (Or.inl ⟨by rfl, ?_⟩) ?_
          rotate_left
          · (intro w hSw; (try dsimp only at hSw); go_simp) <;> with_reducible rfl
          try simp only [Act.put, sA, sB, sC]
          refine tkV 24 (v := ?_) rfl (Or.inl ⟨by rfl, ?_⟩) ?_
          rotate_left
          · (intro w hSw; (try dsimp only at hSw); go_simp) <;> with_reducible rfl
          try simp only [Act.put, sA, sB, sC]
          refine tkV 25 (v := ?_) rfl (Or.inl ⟨by rfl, ?_⟩) ?_
          rotate_left
          · (intro w hSw; (try dsimp only at hSw); go_simp) <;> with_reducible rfl
          try simp only [Act.put, sA, sB, sC]
          refine wpAnyH_done (by kernel_rfl) ?_ _
          go_wp2_with fail
          go_meet
          exact ⟨by unfold dC; rw [h6, h9]; rfl, rfl⟩
  case rest =>
  obtain ⟨rfl, hwc⟩ := hcut
  rw [hwc]
  obtain ⟨w6, hw6⟩ : ∃ w6, w6 = w5.drew := ⟨_, rfl⟩
  have HW6 : Hid (Below w.heap.size w w6 ∧ PkAt w6 w.heap.size p tc (.slice ao p.bys.length cap)) := by rw [hw6]; exact HD5.out
  rw [← hw6]
  clear hwc hw6 HD5 HW4 hf1 hf2 hs3 hf4 hf5 hx7 hf5' hx7'
  obtain ⟨D3, hD3⟩ : ∃ x, dC f1 f2 s3 f4 f5 x7 = x := ⟨_, rfl⟩
  rw [hD3]
  rw [hD3] at HDOC
  clear hD3
  cases D3 with
  | true =>
    have HF : Hid (E = 150) := by
      show E = 150
      rw [HEE.out, HDOC.out, if_neg (by simp)]
    go_wp2_with fail
    go_ret
    exact ⟨by rw [HF.out]; rfl, HW6.out.1⟩
  | false =>
  obtain ⟨k11, hk11⟩ : ∃ x, (p.kind == 11) = x := ⟨_, rfl⟩
  obtain ⟨k12, hk12⟩ : ∃ x, (p.kind == 12) = x := ⟨_, rfl⟩
  obtain ⟨zz, hzz⟩ : ∃ x, (p.zn == 0) = x := ⟨_, rfl⟩
  rw [hk11, hk12, hzz] at HDOC
  have c0 : w6.cell? ⟨w.heap.size, 0, none⟩ = some (.int .i8 p.kind) := pk_at HW6.out.2 rfl
  have c9 : w6.cell? ⟨w.heap.size, 9, none⟩ = some (.int .u32 p.zn) := pk_at HW6.out.2 rfl
  go_upto_region 19 with fail
  go_cut [157] from 144 to 156 (fun s wx => s = .bool (dD k11 k12 zz) ∧ wx = w6)
  case first =>
    cases k11 with
    | true =>
      cases zz with
      | true =>
        go_wp2_with fail
        go_meet
        exact ⟨rfl, rfl⟩
      | false =>
        go_wp2_with fail
        go_meet
        exact ⟨rfl, rfl⟩
    | false =>
      cases k12 with
      | true =>
        cases zz with
        | true =>
          go_wp2_with fail
          go_meet
          exact ⟨rfl, rfl⟩
        | false =>
          go_wp2_with fail
          go_meet
          exact ⟨rfl, rfl⟩
      | false =>
        go_wp2_with fail
        go_meet
        exact ⟨rfl, rfl⟩
  case rest =>
  obtain ⟨rfl, hwc⟩ := hcut
  rw [hwc]
  clear hwc c0 c9 hk11 hk12 hzz
  obtain ⟨D4, hD4⟩ : ∃ x, dD k11 k12 zz = x := ⟨_, rfl⟩
  rw [hD4]
  rw [hD4] at HDOC
  clear hD4
  cases D4 with
  | true =>
    have HF : Hid (E = 150) := by
      show E = 150
      rw [HEE.out, HDOC.out, if_neg (by simp)]
    go_wp2_with fail
    go_ret
    exact ⟨by rw [HF.out]; rfl, HW6.out.1⟩
  | false =>
  go_wp2_with fail
  refine (has15_any T 116 _ HT.out).mono ?_
  rintro _ wq ⟨rfl, hq⟩
  rw [hq]
  clear hq wq
  obtain ⟨ht, hht⟩ : ∃ x, hasB T 116 = x := ⟨_, rfl⟩
  rw [hht]
  rw [hht] at HDOC
  clear hht
  have l14 := (HW6.out.2.tail hl16).1
  cases ht with
  | false =>
    have HF : Hid (E = if tz = true then 0 else 150) := by
      show E = _
      rw [HEE.out, HDOC.out]
      simp
    go_wp2_with (refine wpList_load_mid rfl 37 _ rfl w.heap.size 14 rfl tc _ l14 Tryz.underlying37 rfl q16 ?_)
    clear l14
    refine (eqTxn0 tc p.tx tz HS.out.2.2 _ (HS.out.1.tx.below HW6.out.1 (Nat.le_refl _))).mono ?_
    rintro _ w7 ⟨rfl, b7⟩
    have HW7 : Hid (Below w.heap.size w w7) := HW6.out.1.trans (b7.mono HW6.out.1.size)
    clear b7
    cases tz with
    | true =>
      go_wp2_with fail
      go_ret
      exact ⟨by rw [HF.out]; rfl, HW7.out⟩
    | false =>
      go_wp2_with fail
      go_ret
      exact ⟨by rw [HF.out]; rfl, HW7.out⟩
  | true =>
  have HF : Hid (E = if dE (txOk p.tx) (p.kind != 13) (decide (0 < zcmp p.tx.ep p.tx.n p.pe p.pn)) (p.kind == 13) (p.tx.n != 0) (decide (p.tx.num < 1)) = true then 150 else 0) := by
    show E = _
    rw [HEE.out, HDOC.out]
    cases dE (txOk p.tx) (p.kind != 13) (decide (0 < zcmp p.tx.ep p.tx.n p.pe p.pn)) (p.kind == 13) (p.tx.n != 0) (decide (p.tx.num < 1)) <;> simp
  clear HDOC HEE
  go_wp2_with (refine wpList_load_mid rfl 37 _ rfl w.heap.size 14 rfl tc _ l14 Tryz.underlying37 rfl q16 ?_)
  clear l14
  refine (refCheck_any tc p.tx _ (HS.out.1.tx.below HW6.out.1 (Nat.le_refl _)) HS.out.2.1.tx).mono ?_
  rintro _ w7 ⟨rfl, b7⟩
  have HW7 : Hid (Below w.heap.size w w7 ∧ PkAt w7 w.heap.size p tc (.slice ao p.bys.length cap)) := ⟨HW6.out.1.trans (b7.mono HW6.out.1.size), HW6.out.2.later b7 HW6.out.2.lt⟩
  clear b7 HW6
  obtain ⟨c14, c15, c18⟩ := HW7.out.2.txHead HS.out.1.tx
  have c10 : w7.cell? ⟨w.heap.size, 10, none⟩ = some (.int .u32 p.pe) := pk_at HW7.out.2 rfl
  have c11 : w7.cell? ⟨w.heap.size, 11, none⟩ = some (.int .u32 p.pn) := pk_at HW7.out.2 rfl
  obtain ⟨ev, hev⟩ : ∃ x : Int, (if txOk p.tx = true then (0 : Int) else 40) = x := ⟨_, rfl⟩
  rw [hev]
  have HEV : Hid _ := hev
  clear hev
  go_wp2_with fail
  refine (refCompare_any _ _ _ _ _).mono ?_
  rintro _ w8 ⟨rfl, b8⟩
  have HW8 : Hid (Below w.heap.size w w8 ∧ PkAt w8 w.heap.size p tc (.slice ao p.bys.length cap)) := ⟨HW7.out.1.trans (b8.mono HW7.out.1.size), HW7.out.2.later b8 HW7.out.2.lt⟩
  clear b8 HW7 c14 c15 c18 c10 c11
  obtain ⟨c14, c15, c18⟩ := HW8.out.2.txHead HS.out.1.tx
  have c0 : w8.cell? ⟨w.heap.size, 0, none⟩ = some (.int .i8 p.kind) := pk_at HW8.out.2 rfl
  obtain ⟨zc, hzc⟩ : ∃ x : Int, zcmp p.tx.ep p.tx.n p.pe p.pn = x := ⟨_, rfl⟩
  rw [hzc]
  rw [hzc] at HF
  clear hzc
  obtain ⟨ab, hab⟩ : ∃ x, decide (0 < zc) = x := ⟨_, rfl⟩
  obtain ⟨n0, hn0⟩ : ∃ x, (p.tx.n != 0) = x := ⟨_, rfl⟩
  obtain ⟨n1, hn1⟩ : ∃ x, decide (p.tx.num < 1) = x := ⟨_, rfl⟩
  rw [hab, hn0, hn1] at HF
  go_upto_region 28 with fail
  clear hab
  go_cut [206] from 177 to 205 (fun s wx => s = .bool (dE (txOk p.tx) (p.kind != 13) ab (p.kind == 13) n0 n1) ∧ wx = w8)
  case first =>
    cases hok : txOk p.tx with
    | false =>
      obtain rfl : (40 : Int) = ev := by rw [← HEV.out, hok]; rfl
      go_wp2_with fail
      go_meet
      exact ⟨by rw [hok]; rfl, rfl⟩
    | true =>
      obtain rfl : (0 : Int) = ev := by rw [← HEV.out, hok]; rfl
      cases k13 : (p.kind == 13) with
      | true =>
        have k13' : (p.kind != 13) = false := by rw [bne, k13]; rfl
        cases n0 with
        | true =>
          go_wp2_with fail
          go_meet
          exact ⟨by rw [hok, k13, k13']; rfl, rfl⟩
        | false =>
          go_wp2_with fail
          go_meet
          exact ⟨by rw [hok, k13, k13']; rfl, rfl⟩
      | false =>
        have k13' : (p.kind != 13) = true := by rw [bne, k13]; rfl
        cases ab with
        | true =>
          go_wp2_with fail
          go_meet
          exact ⟨by rw [hok, k13, k13']; rfl, rfl⟩
        | false =>
          go_wp2_with fail
          go_meet
          exact ⟨by rw [hok, k13, k13']; rfl, rfl⟩
  case rest =>
  obtain ⟨rfl, hwc⟩ := hcut
  rw [hwc]
  clear hwc c0 c14 c15 c18 hn0 hn1
  obtain ⟨D5, hD5⟩ : ∃ x, dE (txOk p.tx) (p.kind != 13) ab (p.kind == 13) n0 n1 = x := ⟨_, rfl⟩
  rw [hD5]
  rw [hD5] at HF
  clear hD5
  cases D5 with
  | true =>
    go_wp2_with fail
    go_ret
    exact ⟨by rw [HF.out]; rfl, HW8.out.1⟩
  | false =>
    go_wp2_with fail
    go_ret
    exact ⟨by rw [HF.out]; rfl, HW8.out.1⟩
end Go.Proofs.YtldcbabgommghaaGreatDoor
