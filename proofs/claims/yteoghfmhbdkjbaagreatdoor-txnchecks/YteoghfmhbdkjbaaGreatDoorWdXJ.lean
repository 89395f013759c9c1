/- TxnChecks of the statements of layer 4, walked: true for all that came in. -/
import Derived.Test.YteoghfmhbdkjbaaGreatDoorWdUJ
import Derived.Test.YteoghfmhbdkjbaaGreatDoorWdVJ
import Derived.Test.YteoghfmhbdkjbaaGreatDoorWdHJ
import Derived.Test.YteoghfmhbdkjbaaGreatDoorPartsJ
import Derived.Test.YteoghfmhbdkjbaaGreatDoorLargeTJ
import Derived.Test.YteoghfmhbdkjbaaGreatDoorWorks4J
import Derived.Deep.CutRange
namespace Go.Proofs.YteoghfmhbdkjbaaGreatDoor
open Go.RowKit Go.Shelf
set_option maxRecDepth 8000

/-- What stands behind the wide copy: it lies in the block that v4 leads to. -/
def ChkIn (V : World) (t : TxD) (v4 : Value) (X : World) : Prop := ∃ (M : Nat) (G : Nat → Prop) (ys : List Value), v4 = .pointer (some ⟨M, 0, none⟩) ∧ Below V.heap.size V X ∧ WidQ X G ys t.rq ∧ (∀ k, G k → k < X.heap.size) ∧ X.heap[M]? = some (.cells (txHead t ++ ys).toArray 35 (0, 0))

set_option maxHeartbeats 8000000 in
theorem txnChecks_walk (cs : List Value) (t : TxD) (w : World) (hn : Nam w) (ht : Tab w) (hg0 : 1 < w.heap.size) (h : SeesTx w cs t) (hg : t.good) :
    Calls Tryz.prog 3 #[.agg cs.toArray] w fun r w' => r = .returned (.bool true) ∧ Below w.heap.size w w' := by
  obtain ⟨E, hE⟩ : ∃ E : Int, E = (if txOk t then 0 else 40) := ⟨_, rfl⟩
  obtain ⟨F, hF⟩ : ∃ F : Int, F = (if t.rq.refOk then 0 else 40) := ⟨_, rfl⟩
  have HRC : Hid (∀ W cs', SeesTx W cs' t → Calls Tryz.prog 12 #[.agg cs'.toArray] W fun r w' => r = .returned (.int .i64 E) ∧ Below W.heap.size W w') := fun W cs' hh => by rw [hE]; exact refCheck_any cs' t W hh hg
  have HPC : Hid (∀ W cs', SeesTx W cs' t → Nam W → Calls Tryz.prog 8 #[.agg cs'.toArray] W fun r w' => r = .returned (.int .i64 E) ∧ Below W.heap.size W w') := fun W cs' hh hN => by rw [hE]; exact check_any cs' t W hh hg hN
  have HPR : Hid (∀ W rc, SeesRq W rc t.rq → Nam W → Calls Tryz.prog 9 #[.agg rc.toArray] W fun r w' => r = .returned (.int .i64 F) ∧ Below W.heap.size W w') := fun W rc hh hN => by rw [hF]; exact checkRequest_any t.rq rc W hh hg.rq hN
  have HRR : Hid (∀ W rc, SeesRq W rc t.rq → Calls Tryz.prog 13 #[.agg rc.toArray] W fun r w' => r = .returned (.int .i64 F) ∧ Below W.heap.size W w') := fun W rc hh => by
    rw [hF]
    have hgr := hg.rq
    generalize t.rq = r at *
    cases r with
    | mk f n ops => exact refCheckRequest_any f n ops rc W hh hgr
  have HLA : Hid (∀ W rc, SeesRq W rc t.rq → Calls Tryz.prog 6 #[.agg rc.toArray] W fun e w' => ∃ b : Bool, e = .returned (.bool b) ∧ (b = false → t.rq.parts ≤ 20000) ∧ Below W.heap.size W w') := fun W rc hh => large_any t.rq rc W hh hg.rq
  clear hE hF hg
  obtain ⟨rc, rfl, hr⟩ := h
  obtain ⟨ep, tn, srv, boot, num, r⟩ := t
  simp only at hr HPR HRR HLA
  obtain ⟨qx0, qx1, dx0, dx1, dx2, ax0, ax1, ax2, qx4, qx5, qx6, qx7, qx8, ex0, ex1, ex2, ox0, ox1, ox2, rfl⟩ := rq_forms hr
  obtain ⟨V, eV⟩ : ∃ V, V = w.alloc (.cells #[.int .u32 ep, .int .u32 tn, .int .i8 srv, .int .u32 boot, .int .i64 num, .int .i8 qx0, .string qx1, .slice dx0 dx1 dx2, .slice ax0 ax1 ax2, .int .i32 qx4, .bool qx5, .bool qx6, .int .i64 qx7, .int .i32 qx8, .slice ex0 ex1 ex2, .slice ox0 ox1 ox2] 35) := ⟨_, rfl⟩
  have HV : Hid (Below w.heap.size w V) := by subst eV; exact one_alloc _ _
  have HC : Hid (∀ W', Below V.heap.size V W' → W'.cell? ⟨w.heap.size, 0, none⟩ = some (.int .u32 ep) ∧ W'.cell? ⟨w.heap.size, 1, none⟩ = some (.int .u32 tn) ∧ W'.cell? ⟨w.heap.size, 2, none⟩ = some (.int .i8 srv) ∧ W'.cell? ⟨w.heap.size, 3, none⟩ = some (.int .u32 boot) ∧ W'.cell? ⟨w.heap.size, 4, none⟩ = some (.int .i64 num) ∧ W'.cell? ⟨w.heap.size, 5, none⟩ = some (.int .i8 qx0) ∧ W'.cell? ⟨w.heap.size, 6, none⟩ = some (.string qx1) ∧ W'.cell? ⟨w.heap.size, 7, none⟩ = some (.slice dx0 dx1 dx2) ∧ W'.cell? ⟨w.heap.size, 8, none⟩ = some (.slice ax0 ax1 ax2) ∧ W'.cell? ⟨w.heap.size, 9, none⟩ = some (.int .i32 qx4) ∧ W'.cell? ⟨w.heap.size, 10, none⟩ = some (.bool qx5) ∧ W'.cell? ⟨w.heap.size, 11, none⟩ = some (.bool qx6) ∧ W'.cell? ⟨w.heap.size, 12, none⟩ = some (.int .i64 qx7) ∧ W'.cell? ⟨w.heap.size, 13, none⟩ = some (.int .i32 qx8) ∧ W'.cell? ⟨w.heap.size, 14, none⟩ = some (.slice ex0 ex1 ex2) ∧ W'.cell? ⟨w.heap.size, 15, none⟩ = some (.slice ox0 ox1 ox2)) := by
    intro W' hW
    subst eV
    refine ⟨?_, ?_, ?_, ?_, ?_, ?_, ?_, ?_, ?_, ?_, ?_, ?_, ?_, ?_, ?_, ?_⟩ <;> (refine cell_later ?_ hW (Nat.le_refl _); rw [cell_of_row _ _ _ _ _ _ (heap_alloc_new _ _)]; rfl)
  have HD : Hid (∀ W', Below V.heap.size V W' → Below w.heap.size w W' ∧ Nam W' ∧ Tab W' ∧ 1 < W'.heap.size ∧ SeesRq W' [.int .i8 qx0, .string qx1, .slice dx0 dx1 dx2, .slice ax0 ax1 ax2, .int .i32 qx4, .bool qx5, .bool qx6, .int .i64 qx7, .int .i32 qx8, .slice ex0 ex1 ex2, .slice ox0 ox1 ox2] r ∧ SeesTx W' [.int .u32 ep, .int .u32 tn, .int .i8 srv, .int .u32 boot, .int .i64 num, .int .i8 qx0, .string qx1, .slice dx0 dx1 dx2, .slice ax0 ax1 ax2, .int .i32 qx4, .bool qx5, .bool qx6, .int .i64 qx7, .int .i32 qx8, .slice ex0 ex1 ex2, .slice ox0 ox1 ox2] ⟨ep, tn, srv, boot, num, r⟩) := fun W' hW => by
    have hb := HV.out.trans (hW.mono HV.out.size)
    exact ⟨hb, hn.below hb hn.lt, ht.below hb hg0, Nat.lt_of_lt_of_le hg0 hb.size, hr.later hb (Nat.le_refl _), ⟨_, rfl, hr.later hb (Nat.le_refl _)⟩⟩
  have HE : Hid _ := eV
  clear eV hn ht hg0 hr
  simp only [txHead, List.cons_append, List.nil_append]
  go_enter Tryz.func3, Tryz.ntmps3
  go_wp2_with fail
  rw [← HE.out]
  clear HE
  refine (works4_any _ (HD.out _ (Below.refl _ _)).2.1).mono ?_
  rintro _ w1 ⟨rfl, b⟩
  have HB1 : Hid (Below V.heap.size V w1) := b
  clear b
  obtain ⟨g0, g1, g2, g3, g4, g5, g6, g7, g8, g9, g10, g11, g12, g13, g14, g15⟩ := HC.out _ HB1.out
  go_wp2_with fail
  clear g0 g1 g2 g3 g4 g5 g6 g7 g8 g9 g10 g11 g12 g13 g14 g15
  refine (HLA.out _ [.int .i8 qx0, .string qx1, .slice dx0 dx1 dx2, .slice ax0 ax1 ax2, .int .i32 qx4, .bool qx5, .bool qx6, .int .i64 qx7, .int .i32 qx8, .slice ex0 ex1 ex2, .slice ox0 ox1 ox2] (HD.out _ HB1.out).2.2.2.2.1).mono ?_
  rintro _ w2 ⟨bl, rfl, hbl, b⟩
  have HB2 : Hid (Below V.heap.size V w2) := HB1.out.trans (b.mono HB1.out.size)
  clear b HB1 HLA
  cases bl
  · have HP : Hid (r.parts ≤ 20000) := hbl rfl
    clear hbl
    go_upto_region 4 with fail
    go_cut [4] from 8 to 44 (fun v4 wx => ChkIn V ⟨ep, tn, srv, boot, num, r⟩ v4 wx)
    case first => as_aux_lemma =>
      have HX := wideTxn_any _ ⟨ep, tn, srv, boot, num, r⟩ w2 (HD.out _ HB2.out).2.2.2.2.2 HP.out (HD.out _ HB2.out).2.2.1 (HD.out _ HB2.out).2.2.2.1
      obtain ⟨g0, g1, g2, g3, g4, g5, g6, g7, g8, g9, g10, g11, g12, g13, g14, g15⟩ := HC.out _ HB2.out
      go_wp2_with fail
      clear g0 g1 g2 g3 g4 g5 g6 g7 g8 g9 g10 g11 g12 g13 g14 g15
      refine HX.mono ?_
      rintro _ w3 ⟨ds, rfl, hq3, b⟩
      obtain ⟨qy0, qy1, dy0, dy1, dy2, ay0, ay1, ay2, qy4, qy5, qy6, qy7, qy8, ey0, ey1, ey2, oy0, oy1, oy2, rfl⟩ := rq_forms (hq3.sees HP.out)
      have HB3 : Hid (Below V.heap.size V w3) := HB2.out.trans (b.mono HB2.out.size)
      have HQ3 : Hid (WidQ w3 (fun k => w2.heap.size ≤ k ∧ k < w3.heap.size) [.int .i8 qy0, .string qy1, .slice dy0 dy1 dy2, .slice ay0 ay1 ay2, .int .i32 qy4, .bool qy5, .bool qy6, .int .i64 qy7, .int .i32 qy8, .slice ey0 ey1 ey2, .slice oy0 oy1 oy2] r) := hq3
      clear b hq3 HX HB2 HC HD HRC HPC HPR HRR
      simp only [txHead, List.cons_append, List.nil_append]
      go_wp2_with fail
      go_meet
      exact ⟨w3.heap.size, _, _, rfl, HB3.out.trans ((one_alloc _ _).mono HB3.out.size), WidQ.kept (F' := fun k => w2.heap.size ≤ k ∧ k < w3.heap.size) (Below.kept (one_alloc _ _)) (fun k hk => ⟨by omega, hk⟩) HQ3.out, fun k hk => by simp; omega, heap_alloc_new _ _⟩
    case rest => as_aux_lemma =>
      clear HB2
      obtain ⟨M, Gq, ys, rfl, hvx, hqx, hGx, hMx⟩ := hcut
      obtain ⟨X, eX⟩ : ∃ X, X = wc := ⟨_, rfl⟩
      subst eX
      obtain ⟨qy0, qy1, dy0, dy1, dy2, ay0, ay1, ay2, qy4, qy5, qy6, qy7, qy8, ey0, ey1, ey2, oy0, oy1, oy2, rfl⟩ := rq_forms (hqx.sees HP.out)
      have HI : Hid (∀ W', Below X.heap.size X W' → W'.cell? ⟨M, 0, none⟩ = some (.int .u32 ep) ∧ W'.cell? ⟨M, 1, none⟩ = some (.int .u32 tn) ∧ W'.cell? ⟨M, 2, none⟩ = some (.int .i8 srv) ∧ W'.cell? ⟨M, 3, none⟩ = some (.int .u32 boot) ∧ W'.cell? ⟨M, 4, none⟩ = some (.int .i64 num) ∧ W'.cell? ⟨M, 5, none⟩ = some (.int .i8 qy0) ∧ W'.cell? ⟨M, 6, none⟩ = some (.string qy1) ∧ W'.cell? ⟨M, 7, none⟩ = some (.slice dy0 dy1 dy2) ∧ W'.cell? ⟨M, 8, none⟩ = some (.slice ay0 ay1 ay2) ∧ W'.cell? ⟨M, 9, none⟩ = some (.int .i32 qy4) ∧ W'.cell? ⟨M, 10, none⟩ = some (.bool qy5) ∧ W'.cell? ⟨M, 11, none⟩ = some (.bool qy6) ∧ W'.cell? ⟨M, 12, none⟩ = some (.int .i64 qy7) ∧ W'.cell? ⟨M, 13, none⟩ = some (.int .i32 qy8) ∧ W'.cell? ⟨M, 14, none⟩ = some (.slice ey0 ey1 ey2) ∧ W'.cell? ⟨M, 15, none⟩ = some (.slice oy0 oy1 oy2)) := by
        intro W' hW
        have hm := (Below.kept hW).heap hMx (by have := lt_of_block hMx; omega)
        refine ⟨?_, ?_, ?_, ?_, ?_, ?_, ?_, ?_, ?_, ?_, ?_, ?_, ?_, ?_, ?_, ?_⟩ <;> (rw [cell_of_row _ _ _ _ _ _ hm]; rfl)
      have HW : Hid (∀ W', Below X.heap.size X W' → Below V.heap.size V W' ∧ WidQ W' Gq [.int .i8 qy0, .string qy1, .slice dy0 dy1 dy2, .slice ay0 ay1 ay2, .int .i32 qy4, .bool qy5, .bool qy6, .int .i64 qy7, .int .i32 qy8, .slice ey0 ey1 ey2, .slice oy0 oy1 oy2] r ∧ (∀ k, Gq k → k < W'.heap.size) ∧ SeesTx W' [.int .u32 ep, .int .u32 tn, .int .i8 srv, .int .u32 boot, .int .i64 num, .int .i8 qy0, .string qy1, .slice dy0 dy1 dy2, .slice ay0 ay1 ay2, .int .i32 qy4, .bool qy5, .bool qy6, .int .i64 qy7, .int .i32 qy8, .slice ey0 ey1 ey2, .slice oy0 oy1 oy2] ⟨ep, tn, srv, boot, num, r⟩ ∧ SeesRq W' [.int .i8 qy0, .string qy1, .slice dy0 dy1 dy2, .slice ay0 ay1 ay2, .int .i32 qy4, .bool qy5, .bool qy6, .int .i64 qy7, .int .i32 qy8, .slice ey0 ey1 ey2, .slice oy0 oy1 oy2] r) := fun W' hW => by
        have hq := WidQ.kept (F' := Gq) (Below.kept hW) (fun k hk => ⟨by have := hGx k hk; omega, hk⟩) hqx
        exact ⟨hvx.trans (hW.mono hvx.size), hq, fun k hk => Nat.lt_of_lt_of_le (hGx k hk) hW.size, ⟨_, rfl, hq.sees HP.out⟩, hq.sees HP.out⟩
      clear hvx hqx hGx hMx
      go_upto_region 5 with fail
      go_cut [5] from 8 to 44 (fun v wx => v = .int .i64 E ∧ Below X.heap.size X wx)
      case first => as_aux_lemma =>
        obtain ⟨g0, g1, g2, g3, g4, g5, g6, g7, g8, g9, g10, g11, g12, g13, g14, g15⟩ := HI.out _ (Below.refl _ _)
        go_wp2_with fail
        clear g0 g1 g2 g3 g4 g5 g6 g7 g8 g9 g10 g11 g12 g13 g14 g15
        refine (HPC.out _ [.int .u32 ep, .int .u32 tn, .int .i8 srv, .int .u32 boot, .int .i64 num, .int .i8 qy0, .string qy1, .slice dy0 dy1 dy2, .slice ay0 ay1 ay2, .int .i32 qy4, .bool qy5, .bool qy6, .int .i64 qy7, .int .i32 qy8, .slice ey0 ey1 ey2, .slice oy0 oy1 oy2] (HW.out _ (Below.refl _ _)).2.2.2.1 (HD.out _ (HW.out _ (Below.refl _ _)).1).2.1).mono ?_
        rintro _ w4 ⟨rfl, b⟩
        have HB4 : Hid (Below X.heap.size X w4) := b
        clear b HPC HI HW HC HD HRC HPR HRR
        go_wp2_with fail
        go_meet
        exact ⟨rfl, HB4.out⟩
      case rest => as_aux_lemma =>
        obtain ⟨rfl, hb4⟩ := hcut
        have HB4 : Hid (Below X.heap.size X wc) := hb4
        clear hb4 HPC
        go_upto_region 6 with fail
        go_cut [6] from 8 to 44 (fun v wx => v = .int .i64 F ∧ Below X.heap.size X wx)
        case first => as_aux_lemma =>
          obtain ⟨g0, g1, g2, g3, g4, g5, g6, g7, g8, g9, g10, g11, g12, g13, g14, g15⟩ := HI.out _ HB4.out
          go_wp2_with fail
          clear g0 g1 g2 g3 g4 g5 g6 g7 g8 g9 g10 g11 g12 g13 g14 g15
          refine (HPR.out _ [.int .i8 qy0, .string qy1, .slice dy0 dy1 dy2, .slice ay0 ay1 ay2, .int .i32 qy4, .bool qy5, .bool qy6, .int .i64 qy7, .int .i32 qy8, .slice ey0 ey1 ey2, .slice oy0 oy1 oy2] (HW.out _ HB4.out).2.2.2.2 (HD.out _ (HW.out _ HB4.out).1).2.1).mono ?_
          rintro _ w5 ⟨rfl, b⟩
          have HB5 : Hid (Below X.heap.size X w5) := HB4.out.trans (b.mono HB4.out.size)
          clear b HPR HB4 HI HW HC HD HRC HRR
          go_wp2_with fail
          go_meet
          exact ⟨rfl, HB5.out⟩
        case rest => as_aux_lemma =>
          clear HB4
          obtain ⟨rfl, hb5⟩ := hcut
          have HB5 : Hid (Below X.heap.size X wc) := hb5
          clear hb5 HPR
          go_upto_region 7 with fail
          go_cut [7] from 8 to 44 (fun v wx => v = .bool true ∧ Below V.heap.size V wx)
          case first => as_aux_lemma =>
            obtain ⟨g0, g1, g2, g3, g4, g5, g6, g7, g8, g9, g10, g11, g12, g13, g14, g15⟩ := HI.out _ HB5.out
            obtain ⟨h0, h1, h2, h3, h4, h5, h6, h7, h8, h9, h10, h11, h12, h13, h14, h15⟩ := HC.out _ (HW.out _ HB5.out).1
            go_wp2_with fail
            clear g0 g1 g2 g3 g4 g5 g6 g7 g8 g9 g10 g11 g12 g13 g14 g15 h0 h1 h2 h3 h4 h5 h6 h7 h8 h9 h10 h11 h12 h13 h14 h15
            refine (eqTxn_same [.int .u32 ep, .int .u32 tn, .int .i8 srv, .int .u32 boot, .int .i64 num, .int .i8 qy0, .string qy1, .slice dy0 dy1 dy2, .slice ay0 ay1 ay2, .int .i32 qy4, .bool qy5, .bool qy6, .int .i64 qy7, .int .i32 qy8, .slice ey0 ey1 ey2, .slice oy0 oy1 oy2] [.int .u32 ep, .int .u32 tn, .int .i8 srv, .int .u32 boot, .int .i64 num, .int .i8 qx0, .string qx1, .slice dx0 dx1 dx2, .slice ax0 ax1 ax2, .int .i32 qx4, .bool qx5, .bool qx6, .int .i64 qx7, .int .i32 qx8, .slice ex0 ex1 ex2, .slice ox0 ox1 ox2] ⟨ep, tn, srv, boot, num, r⟩ wc (HW.out _ HB5.out).2.2.2.1 (HD.out _ (HW.out _ HB5.out).1).2.2.2.2.2).mono ?_
            rintro _ w6 ⟨rfl, b⟩
            have HB6 : Hid (Below X.heap.size X w6) := HB5.out.trans (b.mono HB5.out.size)
            clear b HB5
            obtain ⟨g0, g1, g2, g3, g4, g5, g6, g7, g8, g9, g10, g11, g12, g13, g14, g15⟩ := HI.out _ HB6.out
            go_wp2_with fail
            clear g0 g1 g2 g3 g4 g5 g6 g7 g8 g9 g10 g11 g12 g13 g14 g15
            refine (spareRequest_any r _ [.int .i8 qy0, .string qy1, .slice dy0 dy1 dy2, .slice ay0 ay1 ay2, .int .i32 qy4, .bool qy5, .bool qy6, .int .i64 qy7, .int .i32 qy8, .slice ey0 ey1 ey2, .slice oy0 oy1 oy2] w6 (HW.out _ HB6.out).2.1 (HW.out _ HB6.out).2.2.1 HP.out (HD.out _ (HW.out _ HB6.out).1).2.2.1 (HD.out _ (HW.out _ HB6.out).1).2.2.2.1).mono ?_
            rintro _ w7 ⟨rfl, b⟩
            have HB7 : Hid (Below V.heap.size V w7) := (HW.out _ (HB6.out.trans (b.mono HB6.out.size))).1
            clear b HB6 HI HW HC HD HRC HRR
            go_wp2_with fail
            go_meet
            exact ⟨rfl, HB7.out⟩
          case rest => as_aux_lemma =>
            clear HB5 HI HW
            obtain ⟨rfl, hb7⟩ := hcut
            have HB7 : Hid (Below V.heap.size V wc) := hb7
            clear hb7
            obtain ⟨h0, h1, h2, h3, h4, h5, h6, h7, h8, h9, h10, h11, h12, h13, h14, h15⟩ := HC.out _ HB7.out
            go_wp2_with fail
            clear h0 h1 h2 h3 h4 h5 h6 h7 h8 h9 h10 h11 h12 h13 h14 h15
            refine (HRC.out _ [.int .u32 ep, .int .u32 tn, .int .i8 srv, .int .u32 boot, .int .i64 num, .int .i8 qx0, .string qx1, .slice dx0 dx1 dx2, .slice ax0 ax1 ax2, .int .i32 qx4, .bool qx5, .bool qx6, .int .i64 qx7, .int .i32 qx8, .slice ex0 ex1 ex2, .slice ox0 ox1 ox2] (HD.out _ HB7.out).2.2.2.2.2).mono ?_
            rintro _ w8 ⟨rfl, b⟩
            have HB8 : Hid (Below V.heap.size V w8) := HB7.out.trans (b.mono HB7.out.size)
            clear b HB7 HRC
            obtain ⟨h0, h1, h2, h3, h4, h5, h6, h7, h8, h9, h10, h11, h12, h13, h14, h15⟩ := HC.out _ HB8.out
            go_wp2_with fail
            clear h0 h1 h2 h3 h4 h5 h6 h7 h8 h9 h10 h11 h12 h13 h14 h15
            refine (HRR.out _ [.int .i8 qx0, .string qx1, .slice dx0 dx1 dx2, .slice ax0 ax1 ax2, .int .i32 qx4, .bool qx5, .bool qx6, .int .i64 qx7, .int .i32 qx8, .slice ex0 ex1 ex2, .slice ox0 ox1 ox2] (HD.out _ HB8.out).2.2.2.2.1).mono ?_
            rintro _ w9 ⟨rfl, b⟩
            have HB9 : Hid (Below w.heap.size w w9) := (HD.out _ (HB8.out.trans (b.mono HB8.out.size))).1
            clear b HB8 HRR HC HD
            go_wp2_with fail
            go_ret
            exact ⟨by simp, HB9.out⟩
  · go_wp2_with fail
    go_ret
    exact ⟨rfl, (HD.out _ HB2.out).1⟩
end Go.Proofs.YteoghfmhbdkjbaaGreatDoor
