/- TxnWrites of the statements of layer 4, walked: true for all that came in. -/
import Derived.Test.YtehgibgeghhloaaGreatDoorWdBJ
import Derived.Test.YtehgibgeghhloaaGreatDoorWdEJ
import Derived.Test.YtehgibgeghhloaaGreatDoorPartsJ
import Derived.Test.YtehgibgeghhloaaGreatDoorShellJ
import Derived.Test.YtehgibgeghhloaaGreatDoorGetDelJ
import Derived.Test.YtehgibgeghhloaaGreatDoorCopyXJ
import Derived.Test.YtehgibgeghhloaaGreatDoorWorks4J
import Derived.Deep.CutRange
namespace Go.Proofs.YtehgibgeghhloaaGreatDoor
open Go.RowKit Go.Shelf
set_option maxRecDepth 8000

/-- What stands behind the wide copy: it lies in the block that v4 leads to. -/
def WrIn (V : World) (t : TxD) (v4 : Value) (X : World) : Prop := ∃ (M : Nat) (G : Nat → Prop) (ys : List Value), v4 = .pointer (some ⟨M, 0, none⟩) ∧ Below V.heap.size V X ∧ WidQ X G ys t.rq ∧ (∀ k, G k → V.heap.size ≤ k ∧ k < X.heap.size) ∧ ¬ G M ∧ V.heap.size ≤ M ∧ X.heap[M]? = some (.cells (txHead t ++ ys).toArray 35 (0, 0))

/-- What stands behind the first answer, the second one, the document's. -/
def WrA (X : World) (t : TxD) (v5 v6 : Value) (W : World) : Prop := ∃ a0 a1 a2, v5 = .slice a0 a1 a2 ∧ v6 = .int .i64 (wErr t) ∧ Bys X.heap.size [⟨a0, a1, a2⟩] W ∧ Below X.heap.size X W ∧ Owns W X.heap.size (.slice a0 a1 a2) (wByt t)

structure Fx (X : World) (n0 n1 : Nat) (t : TxD) (a b c : Pc) (W : World) : Prop where
  bys : Bys X.heap.size [a, b] W
  bel : Below X.heap.size X W
  oa : Owns W X.heap.size a.val (wByt t)
  ob : Owns W n0 b.val (wByt t)
  oc : Owns W n1 c.val (wByt t)

theorem Fx.later {X : World} {n0 n1 : Nat} {t : TxD} {a b c : Pc} {W W' : World} (h : Fx X n0 n1 t a b c W) (hb : Below W.heap.size W W') : Fx X n0 n1 t a b c W' :=
  ⟨h.bys.later hb, h.bel.trans (hb.mono h.bel.size), Owns.kept h.oa (Below.kept hb) (fun k e h' => by have := (h.oa.lt k e).2; omega), Owns.kept h.ob (Below.kept hb) (fun k e h' => by have := (h.ob.lt k e).2; omega), Owns.kept h.oc (Below.kept hb) (fun k e h' => by have := (h.oc.lt k e).2; omega)⟩

def WrB (X : World) (n0 : Nat) (t : TxD) (a : Pc) (v7 v8 : Value) (W : World) : Prop := ∃ b0 b1 b2, v7 = .slice b0 b1 b2 ∧ v8 = .int .i64 (wErr t) ∧ Bys X.heap.size [a, ⟨b0, b1, b2⟩] W ∧ Below X.heap.size X W ∧ Owns W X.heap.size a.val (wByt t) ∧ Owns W n0 (.slice b0 b1 b2) (wByt t) ∧ n0 ≤ W.heap.size
def WrC (X : World) (n0 n1 : Nat) (t : TxD) (a b : Pc) (v9 v10 : Value) (W : World) : Prop := ∃ c0 c1 c2, v9 = .slice c0 c1 c2 ∧ v10 = .int .i64 (wErr t) ∧ Fx X n0 n1 t a b ⟨c0, c1, c2⟩ W
def WrD (X : World) (n0 n1 : Nat) (t : TxD) (a b c : Pc) (v : Value) (W : World) : Prop := v = .bool true ∧ Fx X n0 n1 t a b c W

/-- Behind the list that was written over: its copy. -/
structure Fy (w X : World) (M g : Nat) (bv : Value) (a b : Pc) (ys : List Value) (r' : Rq) (W : World) : Prop where
  bys : Bys X.heap.size [a, b] W
  bag : BagIs W g bv nilS [a] [] X.heap.size
  base : X.heap.size ≤ W.heap.size
  row : W.heap[M]? = X.heap[M]?
  rq : RqIn W (· < W.heap.size) ys r'
  nam : Nam W
  bel : Below w.heap.size w W

theorem Fy.later {w X : World} {M g : Nat} {bv : Value} {a b : Pc} {ys : List Value} {r' : Rq} {W W' : World} (h : Fy w X M g bv a b ys r' W) (hM : M < X.heap.size) (hb : Below W.heap.size W W') : Fy w X M g bv a b ys r' W' :=
  ⟨h.bys.later hb, h.bag.kept (Below.kept hb) (fun e => by have := lt_of_block h.bag.row; omega) (fun k e h' => by have := (h.bag.bs.lt k e).2; omega), Nat.le_trans h.base hb.size, ((Below.kept hb).block M (by have := h.base; omega) (fun e => by have := h.base; omega)).trans h.row, RqIn.kept (F' := (· < W'.heap.size)) (Below.kept hb) (fun k hk => ⟨fun e => by have h1 : k < W.heap.size := hk; omega, by have h1 : k < W.heap.size := hk; have h2 := hb.size; show k < W'.heap.size; omega⟩) h.rq, h.nam.below hb h.nam.lt, h.bel.trans (hb.mono h.bel.size)⟩

def WrE (w X : World) (M g : Nat) (bv : Value) (a b : Pc) (ys : List Value) (t' : TxD) (v16 : Value) (W : World) : Prop := ∃ (K : Nat) (zs : List Value), v16 = .pointer (some ⟨K, 0, none⟩) ∧ W.heap[K]? = some (.cells (txHead t' ++ zs).toArray 35 (0, 0)) ∧ SeesRq W zs t'.rq ∧ Fy w X M g bv a b ys t'.rq W
def WrF (w X : World) (M g : Nat) (bv : Value) (a b : Pc) (ys : List Value) (t' : TxD) (K : Nat) (zs : List Value) (v17 v18 : Value) (W : World) : Prop := ∃ c0 c1 c2, v17 = .slice c0 c1 c2 ∧ v18 = .int .i64 (wErr t') ∧ W.heap[K]? = some (.cells (txHead t' ++ zs).toArray 35 (0, 0)) ∧ SeesRq W zs t'.rq ∧ Fy w X M g bv a b ys t'.rq W ∧ Bys X.heap.size [a, b, ⟨c0, c1, c2⟩] W ∧ Owns W X.heap.size (.slice c0 c1 c2) (wByt t')
def WrG (w X : World) (g : Nat) (bv : Value) (a b c : Pc) (t' : TxD) (v19 v20 : Value) (W : World) : Prop := ∃ n2 d0 d1 d2, v19 = .slice d0 d1 d2 ∧ v20 = .int .i64 (wErr t') ∧ Bys X.heap.size [a, b, c] W ∧ BagIs W g bv nilS [a] [] X.heap.size ∧ X.heap.size ≤ W.heap.size ∧ Owns W X.heap.size c.val (wByt t') ∧ Owns W n2 (.slice d0 d1 d2) (wByt t') ∧ Below w.heap.size w W

set_option maxHeartbeats 8000000 in
theorem txnWrites_walk (cs : List Value) (t : TxD) (w : World) (hn : Nam w) (ht : Tab w) (hg0 : 1 < w.heap.size) (h : SeesTx w cs t) (hg : t.good) :
    Calls Tryz.prog 3 #[.agg cs.toArray] w fun r w' => r = .returned (.bool true) ∧ Below w.heap.size w w' := by
  have HLA : Hid (∀ W rc, SeesRq W rc t.rq → Calls Tryz.prog 5 #[.agg rc.toArray] W fun e w' => ∃ b : Bool, e = .returned (.bool b) ∧ (b = false → t.rq.parts ≤ 20000) ∧ Below W.heap.size W w') := fun W rc hh => large_any t.rq rc W hh hg.rq
  have HG : Hid _ := hg
  clear hg
  obtain ⟨rc, rfl, hr⟩ := h
  obtain ⟨ep, tn, srv, boot, num, r⟩ := t
  simp only at hr HLA
  obtain ⟨qx0, qx1, dx0, dx1, dx2, ax0, ax1, ax2, qx4, qx5, qx6, qx7, qx8, ex0, ex1, ex2, ox0, ox1, ox2, rfl⟩ := rq_forms hr
  obtain ⟨V, eV⟩ : ∃ V, V = w.alloc (.cells #[.int .u32 ep, .int .u32 tn, .int .i8 srv, .int .u32 boot, .int .i64 num, .int .i8 qx0, .string qx1, .slice dx0 dx1 dx2, .slice ax0 ax1 ax2, .int .i32 qx4, .bool qx5, .bool qx6, .int .i64 qx7, .int .i32 qx8, .slice ex0 ex1 ex2, .slice ox0 ox1 ox2] 35) := ⟨_, rfl⟩
  have HV : Hid (Below w.heap.size w V ∧ w.heap.size < V.heap.size) := by subst eV; exact ⟨one_alloc _ _, by simp⟩
  have HC : Hid (∀ W', Below V.heap.size V W' → W'.cell? ⟨w.heap.size, 0, none⟩ = some (.int .u32 ep) ∧ W'.cell? ⟨w.heap.size, 1, none⟩ = some (.int .u32 tn) ∧ W'.cell? ⟨w.heap.size, 2, none⟩ = some (.int .i8 srv) ∧ W'.cell? ⟨w.heap.size, 3, none⟩ = some (.int .u32 boot) ∧ W'.cell? ⟨w.heap.size, 4, none⟩ = some (.int .i64 num) ∧ W'.cell? ⟨w.heap.size, 5, none⟩ = some (.int .i8 qx0) ∧ W'.cell? ⟨w.heap.size, 6, none⟩ = some (.string qx1) ∧ W'.cell? ⟨w.heap.size, 7, none⟩ = some (.slice dx0 dx1 dx2) ∧ W'.cell? ⟨w.heap.size, 8, none⟩ = some (.slice ax0 ax1 ax2) ∧ W'.cell? ⟨w.heap.size, 9, none⟩ = some (.int .i32 qx4) ∧ W'.cell? ⟨w.heap.size, 10, none⟩ = some (.bool qx5) ∧ W'.cell? ⟨w.heap.size, 11, none⟩ = some (.bool qx6) ∧ W'.cell? ⟨w.heap.size, 12, none⟩ = some (.int .i64 qx7) ∧ W'.cell? ⟨w.heap.size, 13, none⟩ = some (.int .i32 qx8) ∧ W'.cell? ⟨w.heap.size, 14, none⟩ = some (.slice ex0 ex1 ex2) ∧ W'.cell? ⟨w.heap.size, 15, none⟩ = some (.slice ox0 ox1 ox2)) := by
    intro W' hW
    subst eV
    refine ⟨?_, ?_, ?_, ?_, ?_, ?_, ?_, ?_, ?_, ?_, ?_, ?_, ?_, ?_, ?_, ?_⟩ <;> (refine cell_later ?_ hW (Nat.le_refl _); rw [cell_of_row _ _ _ _ _ _ (heap_alloc_new _ _)]; rfl)
  have HD : Hid (∀ W', Below V.heap.size V W' → Below w.heap.size w W' ∧ Nam W' ∧ Tab W' ∧ 1 < W'.heap.size ∧ SeesRq W' [.int .i8 qx0, .string qx1, .slice dx0 dx1 dx2, .slice ax0 ax1 ax2, .int .i32 qx4, .bool qx5, .bool qx6, .int .i64 qx7, .int .i32 qx8, .slice ex0 ex1 ex2, .slice ox0 ox1 ox2] r ∧ SeesTx W' [.int .u32 ep, .int .u32 tn, .int .i8 srv, .int .u32 boot, .int .i64 num, .int .i8 qx0, .string qx1, .slice dx0 dx1 dx2, .slice ax0 ax1 ax2, .int .i32 qx4, .bool qx5, .bool qx6, .int .i64 qx7, .int .i32 qx8, .slice ex0 ex1 ex2, .slice ox0 ox1 ox2] ⟨ep, tn, srv, boot, num, r⟩) := fun W' hW => by
    have hb := HV.out.1.trans (hW.mono HV.out.1.size)
    exact ⟨hb, hn.below hb hn.lt, ht.below hb hg0, Nat.lt_of_lt_of_le hg0 hb.size, hr.later hb (Nat.le_refl _), ⟨_, rfl, hr.later hb (Nat.le_refl _)⟩⟩
  have HE : Hid _ := eV
  clear eV hn ht hg0 hr
  simp only [txHead, List.cons_append, List.nil_append]
  go_enter Tryz.func3, Tryz.ntmps3
  go_wp2_with fail
  rw [← HE.out]
  clear HE
  refine (works4_any _ (HD.out _ (Below.refl _ _)).2.1).mono ?_
  rintro _ w1 ⟨rfl, b⟩
  have HB1 : Hid (Below V.heap.size V w1) := b
  clear b
  obtain ⟨g0, g1, g2, g3, g4, g5, g6, g7, g8, g9, g10, g11, g12, g13, g14, g15⟩ := HC.out _ HB1.out
  go_wp2_with fail
  clear g0 g1 g2 g3 g4 g5 g6 g7 g8 g9 g10 g11 g12 g13 g14 g15
  refine (HLA.out _ [.int .i8 qx0, .string qx1, .slice dx0 dx1 dx2, .slice ax0 ax1 ax2, .int .i32 qx4, .bool qx5, .bool qx6, .int .i64 qx7, .int .i32 qx8, .slice ex0 ex1 ex2, .slice ox0 ox1 ox2] (HD.out _ HB1.out).2.2.2.2.1).mono ?_
  rintro _ w2 ⟨bl, rfl, hbl, b⟩
  have HB2 : Hid (Below V.heap.size V w2) := HB1.out.trans (b.mono HB1.out.size)
  clear b HB1 HLA
  cases bl
  · have HP : Hid (r.parts ≤ 20000) := hbl rfl
    clear hbl
    go_upto_region 4 with fail
    go_cut [4] from 22 to 130 (fun v4 wx => WrIn V ⟨ep, tn, srv, boot, num, r⟩ v4 wx)
    case first => as_aux_lemma =>
      have HX := wideTxn_any _ ⟨ep, tn, srv, boot, num, r⟩ w2 (HD.out _ HB2.out).2.2.2.2.2 HP.out (HD.out _ HB2.out).2.2.1 (HD.out _ HB2.out).2.2.2.1
      obtain ⟨g0, g1, g2, g3, g4, g5, g6, g7, g8, g9, g10, g11, g12, g13, g14, g15⟩ := HC.out _ HB2.out
      go_wp2_with fail
      clear g0 g1 g2 g3 g4 g5 g6 g7 g8 g9 g10 g11 g12 g13 g14 g15
      refine HX.mono ?_
      rintro _ w3 ⟨ds, rfl, hq3, b⟩
      obtain ⟨qy0, qy1, dy0, dy1, dy2, ay0, ay1, ay2, qy4, qy5, qy6, qy7, qy8, ey0, ey1, ey2, oy0, oy1, oy2, rfl⟩ := rq_forms (hq3.sees HP.out)
      have HB3 : Hid (Below V.heap.size V w3) := HB2.out.trans (b.mono HB2.out.size)
      have HQ3 : Hid (WidQ w3 (fun k => w2.heap.size ≤ k ∧ k < w3.heap.size) [.int .i8 qy0, .string qy1, .slice dy0 dy1 dy2, .slice ay0 ay1 ay2, .int .i32 qy4, .bool qy5, .bool qy6, .int .i64 qy7, .int .i32 qy8, .slice ey0 ey1 ey2, .slice oy0 oy1 oy2] r) := hq3
      have HS3 : Hid (V.heap.size ≤ w2.heap.size ∧ w2.heap.size ≤ w3.heap.size) := ⟨HB2.out.size, b.size⟩
      clear b hq3 HX HB2 HC HD
      simp only [txHead, List.cons_append, List.nil_append]
      go_wp2_with fail
      go_meet
      exact ⟨w3.heap.size, _, _, rfl, HB3.out.trans ((one_alloc _ _).mono HB3.out.size), WidQ.kept (F' := fun k => w2.heap.size ≤ k ∧ k < w3.heap.size) (Below.kept (one_alloc _ _)) (fun k hk => ⟨by omega, hk⟩) HQ3.out, fun k hk => ⟨by have := HS3.out; omega, by simp; omega⟩, fun e => by omega, by have := HS3.out; omega, heap_alloc_new _ _⟩
    case rest => as_aux_lemma =>
      clear HB2
      obtain ⟨M, Gq, ys, rfl, hvx, hqx, hGx, hGM, hVM, hMx⟩ := hcut
      obtain ⟨X, eX⟩ : ∃ X, X = wc := ⟨_, rfl⟩
      subst eX
      obtain ⟨qy0, qy1, dy0, dy1, dy2, ay0, ay1, ay2, qy4, qy5, qy6, qy7, qy8, ey0, ey1, ey2, oy0, oy1, oy2, rfl⟩ := rq_forms (hqx.sees HP.out)
      have HI : Hid (∀ W' : World, W'.heap[M]? = X.heap[M]? → W'.cell? ⟨M, 0, none⟩ = some (.int .u32 ep) ∧ W'.cell? ⟨M, 1, none⟩ = some (.int .u32 tn) ∧ W'.cell? ⟨M, 2, none⟩ = some (.int .i8 srv) ∧ W'.cell? ⟨M, 3, none⟩ = some (.int .u32 boot) ∧ W'.cell? ⟨M, 4, none⟩ = some (.int .i64 num) ∧ W'.cell? ⟨M, 5, none⟩ = some (.int .i8 qy0) ∧ W'.cell? ⟨M, 6, none⟩ = some (.string qy1) ∧ W'.cell? ⟨M, 7, none⟩ = some (.slice dy0 dy1 dy2) ∧ W'.cell? ⟨M, 8, none⟩ = some (.slice ay0 ay1 ay2) ∧ W'.cell? ⟨M, 9, none⟩ = some (.int .i32 qy4) ∧ W'.cell? ⟨M, 10, none⟩ = some (.bool qy5) ∧ W'.cell? ⟨M, 11, none⟩ = some (.bool qy6) ∧ W'.cell? ⟨M, 12, none⟩ = some (.int .i64 qy7) ∧ W'.cell? ⟨M, 13, none⟩ = some (.int .i32 qy8) ∧ W'.cell? ⟨M, 14, none⟩ = some (.slice ey0 ey1 ey2) ∧ W'.cell? ⟨M, 15, none⟩ = some (.slice oy0 oy1 oy2)) := by
        intro W' hW
        rw [hMx] at hW
        refine ⟨?_, ?_, ?_, ?_, ?_, ?_, ?_, ?_, ?_, ?_, ?_, ?_, ?_, ?_, ?_, ?_⟩ <;> (rw [cell_of_row _ _ _ _ _ _ hW]; rfl)
      have HVX : Hid (w.heap.size ≤ X.heap.size) := Nat.le_trans HV.out.1.size hvx.size
      have HMX : Hid (M < X.heap.size ∧ V.heap.size ≤ M ∧ ¬ Gq M ∧ (∀ k, Gq k → V.heap.size ≤ k ∧ k < X.heap.size) ∧ Below V.heap.size V X) := ⟨lt_of_block hMx, hVM, hGM, hGx, hvx⟩
      have HW : Hid (∀ W', Below X.heap.size X W' → Below V.heap.size V W' ∧ W'.heap[M]? = X.heap[M]? ∧ WidQ W' Gq [.int .i8 qy0, .string qy1, .slice dy0 dy1 dy2, .slice ay0 ay1 ay2, .int .i32 qy4, .bool qy5, .bool qy6, .int .i64 qy7, .int .i32 qy8, .slice ey0 ey1 ey2, .slice oy0 oy1 oy2] r ∧ (∀ k, Gq k → k < W'.heap.size) ∧ SeesTx W' [.int .u32 ep, .int .u32 tn, .int .i8 srv, .int .u32 boot, .int .i64 num, .int .i8 qy0, .string qy1, .slice dy0 dy1 dy2, .slice ay0 ay1 ay2, .int .i32 qy4, .bool qy5, .bool qy6, .int .i64 qy7, .int .i32 qy8, .slice ey0 ey1 ey2, .slice oy0 oy1 oy2] ⟨ep, tn, srv, boot, num, r⟩ ∧ RqIn W' (· < W'.heap.size) [.int .i8 qy0, .string qy1, .slice dy0 dy1 dy2, .slice ay0 ay1 ay2, .int .i32 qy4, .bool qy5, .bool qy6, .int .i64 qy7, .int .i32 qy8, .slice ey0 ey1 ey2, .slice oy0 oy1 oy2] r) := fun W' hW => by
        have hq := WidQ.kept (F' := Gq) (Below.kept hW) (fun k hk => ⟨by have := (hGx k hk).2; omega, hk⟩) hqx
        have hGW : ∀ k, Gq k → k < W'.heap.size := fun k hk => Nat.lt_of_lt_of_le (hGx k hk).2 hW.size
        exact ⟨hvx.trans (hW.mono hvx.size), (Below.kept hW).block M (lt_of_block hMx) (fun e => by have := lt_of_block hMx; omega), hq, hGW, ⟨_, rfl, hq.sees HP.out⟩, RqIn.kept (F' := (· < W'.heap.size)) (Kept.refl W' (fun _ => False)) (fun k hk => ⟨fun e => e, hGW k hk⟩) (hq.rqIn HP.out)⟩
      clear hvx hqx hGx hGM hVM hMx
      go_upto_region 5 with fail
      go_cut [5, 6] from 22 to 130 (fun v5 v6 wx => WrA X ⟨ep, tn, srv, boot, num, r⟩ v5 v6 wx)
      case first => as_aux_lemma =>
        obtain ⟨g0, g1, g2, g3, g4, g5, g6, g7, g8, g9, g10, g11, g12, g13, g14, g15⟩ := HI.out X rfl
        go_wp2_with fail
        clear g0 g1 g2 g3 g4 g5 g6 g7 g8 g9 g10 g11 g12 g13 g14 g15
        refine Calls.mono (write_u ⟨ep, tn, srv, boot, num, r⟩ [.int .i8 qy0, .string qy1, .slice dy0 dy1 dy2, .slice ay0 ay1 ay2, .int .i32 qy4, .bool qy5, .bool qy6, .int .i64 qy7, .int .i32 qy8, .slice ey0 ey1 ey2, .slice oy0 oy1 oy2] X (HW.out _ (Below.refl _ _)).2.2.2.2.2 HG.out (HD.out _ (HW.out _ (Below.refl _ _)).1).2.1) ?_
        rintro _ w4 ⟨a0, a1, a2, rfl, ho, hb⟩
        have S4 : Hid (WrA X ⟨ep, tn, srv, boot, num, r⟩ (.slice a0 a1 a2) (.int .i64 (wErr ⟨ep, tn, srv, boot, num, r⟩)) w4) := ⟨_, _, _, rfl, rfl, (Bys.nil X.heap.size X).add hb (Nat.le_refl _) ho (wByt_len _), hb, ho⟩
        clear ho hb HI HW HC HD
        go_wp2_with fail
        go_meet
        exact S4.out
      case rest => as_aux_lemma =>
        obtain ⟨a0, a1, a2, rfl, rfl, h1, h2, h3⟩ := hcut
        have S4 : Hid (Bys X.heap.size [⟨a0, a1, a2⟩] wc ∧ Below X.heap.size X wc ∧ Owns wc X.heap.size (.slice a0 a1 a2) (wByt ⟨ep, tn, srv, boot, num, r⟩)) := ⟨h1, h2, h3⟩
        clear h1 h2 h3
        obtain ⟨w4, e4⟩ : ∃ w4, w4 = wc := ⟨_, rfl⟩
        subst e4
        go_upto_region 6 with fail
        go_cut [7, 8] from 22 to 130 (fun v7 v8 wx => WrB X w4.heap.size ⟨ep, tn, srv, boot, num, r⟩ ⟨a0, a1, a2⟩ v7 v8 wx)
        case first => as_aux_lemma =>
          obtain ⟨g0, g1, g2, g3, g4, g5, g6, g7, g8, g9, g10, g11, g12, g13, g14, g15⟩ := HI.out w4 (HW.out _ S4.out.2.1).2.1
          go_wp2_with fail
          clear g0 g1 g2 g3 g4 g5 g6 g7 g8 g9 g10 g11 g12 g13 g14 g15
          refine Calls.mono (write_u ⟨ep, tn, srv, boot, num, r⟩ [.int .i8 qy0, .string qy1, .slice dy0 dy1 dy2, .slice ay0 ay1 ay2, .int .i32 qy4, .bool qy5, .bool qy6, .int .i64 qy7, .int .i32 qy8, .slice ey0 ey1 ey2, .slice oy0 oy1 oy2] w4 (HW.out _ S4.out.2.1).2.2.2.2.2 HG.out (HD.out _ (HW.out _ S4.out.2.1).1).2.1) ?_
          rintro _ w5 ⟨b0, b1, b2, rfl, ho, hb⟩
          have S5 : Hid (WrB X w4.heap.size ⟨ep, tn, srv, boot, num, r⟩ ⟨a0, a1, a2⟩ (.slice b0 b1 b2) (.int .i64 (wErr ⟨ep, tn, srv, boot, num, r⟩)) w5) := ⟨_, _, _, rfl, rfl, S4.out.1.add hb S4.out.2.1.size ho (wByt_len _), S4.out.2.1.trans (hb.mono S4.out.2.1.size), Owns.kept S4.out.2.2 (Below.kept hb) (fun k e h => by have := (S4.out.2.2.lt k e).2; omega), ho, hb.size⟩
          clear ho hb S4 HI HW HC HD
          go_wp2_with fail
          go_meet
          exact S5.out
        case rest => as_aux_lemma =>
          obtain ⟨b0, b1, b2, rfl, rfl, h1, h2, h3, h4, h5⟩ := hcut
          have S5 : Hid (Bys X.heap.size [⟨a0, a1, a2⟩, ⟨b0, b1, b2⟩] wc ∧ Below X.heap.size X wc ∧ Owns wc X.heap.size (.slice a0 a1 a2) (wByt ⟨ep, tn, srv, boot, num, r⟩) ∧ Owns wc w4.heap.size (.slice b0 b1 b2) (wByt ⟨ep, tn, srv, boot, num, r⟩)) := ⟨h1, h2, h3, h4⟩
          have HS4 : Hid (X.heap.size ≤ w4.heap.size ∧ ∀ k x, (Pc.mk a0 a1 a2).foot k x → k < w4.heap.size) := ⟨S4.out.2.1.size, fun k x hf => ((S4.out.1.lies _ (by simp)).foot_lt hf).1⟩
          have HS45 : Hid (w4.heap.size ≤ wc.heap.size) := h5
          clear h1 h2 h3 h4 h5 S4
          obtain ⟨w5, e5⟩ : ∃ w5, w5 = wc := ⟨_, rfl⟩
          subst e5
          go_upto_region 7 with fail
          go_cut [9, 10] from 22 to 130 (fun v9 v10 wx => WrC X w4.heap.size w5.heap.size ⟨ep, tn, srv, boot, num, r⟩ ⟨a0, a1, a2⟩ ⟨b0, b1, b2⟩ v9 v10 wx)
          case first => as_aux_lemma =>
            obtain ⟨g0, g1, g2, g3, g4, g5, g6, g7, g8, g9, g10, g11, g12, g13, g14, g15⟩ := HC.out w5 (HW.out _ S5.out.2.1).1
            go_wp2_with fail
            clear g0 g1 g2 g3 g4 g5 g6 g7 g8 g9 g10 g11 g12 g13 g14 g15
            refine Calls.mono (refWrite_u ⟨ep, tn, srv, boot, num, r⟩ [.int .i8 qx0, .string qx1, .slice dx0 dx1 dx2, .slice ax0 ax1 ax2, .int .i32 qx4, .bool qx5, .bool qx6, .int .i64 qx7, .int .i32 qx8, .slice ex0 ex1 ex2, .slice ox0 ox1 ox2] w5 (HD.out _ (HW.out _ S5.out.2.1).1).2.2.2.2.1 HG.out) ?_
            rintro _ w6 ⟨c0, c1, c2, rfl, ho, hb⟩
            have S6 : Hid (WrC X w4.heap.size w5.heap.size ⟨ep, tn, srv, boot, num, r⟩ ⟨a0, a1, a2⟩ ⟨b0, b1, b2⟩ (.slice c0 c1 c2) (.int .i64 (wErr ⟨ep, tn, srv, boot, num, r⟩)) w6) := ⟨_, _, _, rfl, rfl, S5.out.1.later hb, S5.out.2.1.trans (hb.mono S5.out.2.1.size), Owns.kept S5.out.2.2.1 (Below.kept hb) (fun k e h => by have := (S5.out.2.2.1.lt k e).2; omega), Owns.kept S5.out.2.2.2 (Below.kept hb) (fun k e h => by have := (S5.out.2.2.2.lt k e).2; omega), ho⟩
            clear ho hb S5 HI HW HC HD
            go_wp2_with fail
            go_meet
            exact S6.out
          case rest => as_aux_lemma =>
            obtain ⟨c0, c1, c2, rfl, rfl, h1⟩ := hcut
            have S6 : Hid (Fx X w4.heap.size w5.heap.size ⟨ep, tn, srv, boot, num, r⟩ ⟨a0, a1, a2⟩ ⟨b0, b1, b2⟩ ⟨c0, c1, c2⟩ wc) := h1
            clear h1 S5
            obtain ⟨w6, e6⟩ : ∃ w6, w6 = wc := ⟨_, rfl⟩
            subst e6
            go_upto_region 8 with fail
            go_cut [11] from 22 to 130 (fun v11 wx => WrD X w4.heap.size w5.heap.size ⟨ep, tn, srv, boot, num, r⟩ ⟨a0, a1, a2⟩ ⟨b0, b1, b2⟩ ⟨c0, c1, c2⟩ v11 wx)
            case first => as_aux_lemma =>
              obtain ⟨g0, g1, g2, g3, g4, g5, g6, g7, g8, g9, g10, g11, g12, g13, g14, g15⟩ := HI.out w6 (HW.out _ S6.out.bel).2.1
              obtain ⟨h0, h1, h2, h3, h4, h5, h6, h7, h8, h9, h10, h11, h12, h13, h14, h15⟩ := HC.out w6 (HW.out _ S6.out.bel).1
              go_wp2_with fail
              clear g0 g1 g2 g3 g4 g5 g6 g7 g8 g9 g10 g11 g12 g13 g14 g15 h0 h1 h2 h3 h4 h5 h6 h7 h8 h9 h10 h11 h12 h13 h14 h15
              refine (eqTxn_same [.int .u32 ep, .int .u32 tn, .int .i8 srv, .int .u32 boot, .int .i64 num, .int .i8 qy0, .string qy1, .slice dy0 dy1 dy2, .slice ay0 ay1 ay2, .int .i32 qy4, .bool qy5, .bool qy6, .int .i64 qy7, .int .i32 qy8, .slice ey0 ey1 ey2, .slice oy0 oy1 oy2] [.int .u32 ep, .int .u32 tn, .int .i8 srv, .int .u32 boot, .int .i64 num, .int .i8 qx0, .string qx1, .slice dx0 dx1 dx2, .slice ax0 ax1 ax2, .int .i32 qx4, .bool qx5, .bool qx6, .int .i64 qx7, .int .i32 qx8, .slice ex0 ex1 ex2, .slice ox0 ox1 ox2] ⟨ep, tn, srv, boot, num, r⟩ w6 (HW.out _ S6.out.bel).2.2.2.2.1 (HD.out _ (HW.out _ S6.out.bel).1).2.2.2.2.2).mono ?_
              rintro _ w7 ⟨rfl, b⟩
              have S7 : Hid (Fx X w4.heap.size w5.heap.size ⟨ep, tn, srv, boot, num, r⟩ ⟨a0, a1, a2⟩ ⟨b0, b1, b2⟩ ⟨c0, c1, c2⟩ w7) := S6.out.later b
              clear b S6
              obtain ⟨g0, g1, g2, g3, g4, g5, g6, g7, g8, g9, g10, g11, g12, g13, g14, g15⟩ := HI.out w7 (HW.out _ S7.out.bel).2.1
              go_wp2_with fail
              clear g0 g1 g2 g3 g4 g5 g6 g7 g8 g9 g10 g11 g12 g13 g14 g15
              refine (spareRequest_any r _ [.int .i8 qy0, .string qy1, .slice dy0 dy1 dy2, .slice ay0 ay1 ay2, .int .i32 qy4, .bool qy5, .bool qy6, .int .i64 qy7, .int .i32 qy8, .slice ey0 ey1 ey2, .slice oy0 oy1 oy2] w7 (HW.out _ S7.out.bel).2.2.1 (HW.out _ S7.out.bel).2.2.2.1 HP.out (HD.out _ (HW.out _ S7.out.bel).1).2.2.1 (HD.out _ (HW.out _ S7.out.bel).1).2.2.2.1).mono ?_
              rintro _ w8 ⟨rfl, b⟩
              have S8 : Hid (Fx X w4.heap.size w5.heap.size ⟨ep, tn, srv, boot, num, r⟩ ⟨a0, a1, a2⟩ ⟨b0, b1, b2⟩ ⟨c0, c1, c2⟩ w8) := S7.out.later b
              clear b S7 HI HW HC HD
              go_wp2_with fail
              go_meet
              exact ⟨rfl, S8.out⟩
            case rest => as_aux_lemma =>
              clear HC
              obtain ⟨rfl, h1⟩ := hcut
              have S8 : Hid (Fx X w4.heap.size w5.heap.size ⟨ep, tn, srv, boot, num, r⟩ ⟨a0, a1, a2⟩ ⟨b0, b1, b2⟩ ⟨c0, c1, c2⟩ wc) := h1
              clear h1 S6
              obtain ⟨w8, e8⟩ : ∃ w8, w8 = wc := ⟨_, rfl⟩
              subst e8
              go_upto_region 9 with fail
              go_cut [12] from 22 to 130 (fun v12 wx => WrD X w4.heap.size w5.heap.size ⟨ep, tn, srv, boot, num, r⟩ ⟨a0, a1, a2⟩ ⟨b0, b1, b2⟩ ⟨c0, c1, c2⟩ v12 wx)
              case first => as_aux_lemma =>
                clear HI HW HD
                go_wp2_with fail
                refine (eqBytes_alike _ _ (wByt ⟨ep, tn, srv, boot, num, r⟩) w8 (Sees.own S8.out.oa) (Sees.own S8.out.oc)).mono ?_
                rintro _ w9 ⟨rfl, b⟩
                have S9 : Hid (Fx X w4.heap.size w5.heap.size ⟨ep, tn, srv, boot, num, r⟩ ⟨a0, a1, a2⟩ ⟨b0, b1, b2⟩ ⟨c0, c1, c2⟩ w9) := S8.out.later b
                clear b S8
                go_wp2_with fail
                refine (eqBytes_alike _ _ (wByt ⟨ep, tn, srv, boot, num, r⟩) w9 (Sees.own S9.out.ob) (Sees.own S9.out.oc)).mono ?_
                rintro _ w10 ⟨rfl, b⟩
                have S10 : Hid (Fx X w4.heap.size w5.heap.size ⟨ep, tn, srv, boot, num, r⟩ ⟨a0, a1, a2⟩ ⟨b0, b1, b2⟩ ⟨c0, c1, c2⟩ w10) := S9.out.later b
                clear b S9
                go_wp2_with fail
                go_meet
                exact ⟨rfl, S10.out⟩
              case rest => as_aux_lemma =>
                obtain ⟨rfl, h1⟩ := hcut
                have S2 : Hid (Fx X w4.heap.size w5.heap.size ⟨ep, tn, srv, boot, num, r⟩ ⟨a0, a1, a2⟩ ⟨b0, b1, b2⟩ ⟨c0, c1, c2⟩ wc) := h1
                have HDJ : Hid (∀ k x, (Pc.mk a0 a1 a2).foot k x → (Value.slice b0 b1 b2).ownBlock ≠ some k ∧ (Value.slice c0 c1 c2).ownBlock ≠ some k) := fun k x hf => ⟨fun e => by have h1 := HS4.out.2 k x hf; have h2 := (S2.out.ob.lt k e).1; omega, fun e => by have h1 := HS4.out.2 k x hf; have h2 := (S2.out.oc.lt k e).1; have h3 := HS45.out; omega⟩
                clear h1 S8 HS4 HS45
                obtain ⟨Y, eY⟩ : ∃ Y, Y = wc := ⟨_, rfl⟩
                subst eY
                obtain ⟨E, hE⟩ : ∃ E, E = wErr ⟨ep, tn, srv, boot, num, r⟩ := ⟨_, rfl⟩
                rw [← hE]
                clear hE
                go_upto_region 12 with fail
                as_aux_lemma =>
                 have HBG : Hid (BagIs (Y.alloc (.cells (bagCells nilS nilS) 67)) Y.heap.size nilS nilS [] [] X.heap.size ∧ X.heap.size ≤ (Y.alloc (.cells (bagCells nilS nilS) 67)).heap.size ∧ Below Y.heap.size Y (Y.alloc (.cells (bagCells nilS nilS) 67))) := ⟨⟨heap_alloc_new _ _, World.ownsRow_nil _ _ _ _, World.ownsRow_nil _ _ _ _⟩, by have := S2.out.bel.size; simp; omega, one_alloc _ _⟩
                 have HAD := addBytes_any Y.heap.size nilS nilS [] [] X.heap.size ⟨a0, a1, a2⟩ _ HBG.out.1 (by simp) HBG.out.2.1
                 go_wp2_with fail
                 refine HAD.mono ?_
                 clear HAD
                 rintro _ w13 ⟨rfl, bv, hbag, hk, _⟩
                 rw [List.nil_append] at hbag
                 have S13 : Hid (BagIs w13 Y.heap.size bv nilS [⟨a0, a1, a2⟩] [] X.heap.size ∧ Below Y.heap.size Y w13) := ⟨hbag, HBG.out.2.2.trans (by
                   refine ⟨hk.os, hk.tape, hk.output, hk.size, fun k hk' => hk.block k (by have := HBG.out.2.2.size; omega) (fun e => ?_)⟩
                   rcases e with rfl | e
                   · omega
                   · simp [Value.ownBlock] at e)⟩
                 clear hbag hk HBG
                 have HBy : Hid (Bys X.heap.size [⟨a0, a1, a2⟩, ⟨b0, b1, b2⟩] w13) := S2.out.bys.later S13.out.2
                 have HA1 : Hid (Bys X.heap.size [⟨a0, a1, a2⟩] w13) := ⟨fun p hp => HBy.out.lies p (by simp at hp; subst hp; simp), fun p hp => HBy.out.few p (by simp at hp; subst hp; simp), fun p hp => HBy.out.base p (by simp at hp; subst hp; simp), List.pairwise_singleton _ _⟩
                 go_wp2_with fail
                 refine (bagApart_b Y.heap.size X.heap.size bv [⟨a0, a1, a2⟩] w13 S13.out.1 HA1.out.lies HA1.out.apart (by simp) HA1.out.few).mono ?_
                 rintro _ w14 ⟨rfl, hT⟩
                 have S14 : Hid (BagIs w14 Y.heap.size bv nilS [⟨a0, a1, a2⟩] [] X.heap.size ∧ Bys X.heap.size [⟨a0, a1, a2⟩, ⟨b0, b1, b2⟩] w14 ∧ Below X.heap.size X w14 ∧ Owns w14 w4.heap.size (.slice b0 b1 b2) (wByt ⟨ep, tn, srv, boot, num, r⟩) ∧ Owns w14 w5.heap.size (.slice c0 c1 c2) (wByt ⟨ep, tn, srv, boot, num, r⟩)) := by
                   have hown : ∀ B v bs, Owns Y B v bs → (∀ k x, (Pc.mk a0 a1 a2).foot k x → v.ownBlock ≠ some k) → Owns w14 B v bs := fun B v bs h hf => by
                     have h13 : Owns w13 B v bs := Owns.kept h (Below.kept S13.out.2) (fun k e h' => by have := (h.lt k e).2; omega)
                     obtain ⟨q1, q2 | ⟨gv, cap, cur, rfl, z2, z3, z4⟩⟩ := h13
                     · exact ⟨q1, .inl q2⟩
                     · refine ⟨q1, .inr ⟨gv, cap, cur, rfl, z2, ?_, z4⟩⟩
                       rw [hT.same gv (lt_of_block z3) (fun x hs => ?_)]
                       · exact z3
                       · obtain ⟨q, hq, hfq⟩ := hs
                         simp at hq
                         subst hq
                         exact hf gv x hfq rfl
                   refine ⟨S13.out.1.turned hT HA1.out.lies, HBy.out.turned hT, S2.out.bel.trans ((S13.out.2.mono S2.out.bel.size).trans (hT.below (by have := S2.out.bel.size; have := S13.out.2.size; omega) (fun k x hs => ?_))), hown _ _ _ S2.out.ob (fun k x hf => (HDJ.out k x hf).1), hown _ _ _ S2.out.oc (fun k x hf => (HDJ.out k x hf).2)⟩
                   obtain ⟨q, hq, hfq⟩ := hs
                   exact HA1.out.base q hq k x hfq
                 have HXY : Hid (X.heap.size ≤ Y.heap.size) := S2.out.bel.size
                 clear hT S13 HBy HA1 S2 HDJ
                 go_wp2_with fail
                 refine (eqBytes_alike _ _ (wByt ⟨ep, tn, srv, boot, num, r⟩) w14 (Sees.own S14.out.2.2.2.1) (Sees.own S14.out.2.2.2.2)).mono ?_
                 rintro _ Z ⟨rfl, b⟩
                 obtain ⟨g, eg⟩ : ∃ g, g = Y.heap.size := ⟨_, rfl⟩
                 rw [← eg] at S14 HXY ⊢
                 have S15 : Hid (X.heap.size ≤ g ∧ Below X.heap.size X Z ∧ Bys X.heap.size [⟨a0, a1, a2⟩, ⟨b0, b1, b2⟩] Z ∧ BagIs Z g bv nilS [⟨a0, a1, a2⟩] [] X.heap.size) := ⟨HXY.out, S14.out.2.2.1.trans (b.mono S14.out.2.2.1.size), S14.out.2.1.later b, S14.out.1.kept (Below.kept b) (fun e => by have := lt_of_block S14.out.1.row; omega) (fun k e h => by have := (S14.out.1.bs.lt k e).2; omega)⟩
                 clear b S14 HXY eg
                 go_upto_region 16 with fail
                 as_aux_lemma =>
                  have HTU := fun (f : RqF) (n : Nat) (ops : Fin n → Rq) (e : r = .mk f n ops) => turned_any Gq f n ops [.int .i8 qy0, .string qy1, .slice dy0 dy1 dy2, .slice ay0 ay1 ay2, .int .i32 qy4, .bool qy5, .bool qy6, .int .i64 qy7, .int .i32 qy8, .slice ey0 ey1 ey2, .slice oy0 oy1 oy2] Z (by rw [← e]; exact (HW.out _ S15.out.2.1).2.2.1) (by rw [← e]; exact HP.out) (by have h := HG.out.rq; simp only [e] at h; exact h.1) (HW.out _ S15.out.2.1).2.2.2.1
                  have HTR : Calls Tryz.prog 14 #[.agg #[.int .i8 qy0, .string qy1, .slice dy0 dy1 dy2, .slice ay0 ay1 ay2, .int .i32 qy4, .bool qy5, .bool qy6, .int .i64 qy7, .int .i32 qy8, .slice ey0 ey1 ey2, .slice oy0 oy1 oy2]] Z fun e w' => e = .returned (.tuple #[]) ∧ Turns Z w' ∧ Kept Z w' Gq := by
                    cases hrr : r with
                    | mk f n ops => exact HTU f n ops hrr
                  clear HTU
                  obtain ⟨g0, g1, g2, g3, g4, g5, g6, g7, g8, g9, g10, g11, g12, g13, g14, g15⟩ := HI.out Z (HW.out _ S15.out.2.1).2.1
                  go_wp2_with fail
                  clear g0 g1 g2 g3 g4 g5 g6 g7 g8 g9 g10 g11 g12 g13 g14 g15
                  refine HTR.mono ?_
                  clear HTR
                  rintro _ w16 ⟨rfl, hTu, hKe⟩
                  obtain ⟨r', hr1, hr2, hr3⟩ := RqIn.turns hTu (RqIn.kept (F' := Gq) (Kept.refl Z (fun _ => False)) (fun k hk => ⟨fun e => e, hk⟩) ((HW.out _ S15.out.2.1).2.2.1.rqIn HP.out)) HG.out.rq [.int .i8 qy0, .string qy1, .slice dy0 dy1 dy2, .slice ay0 ay1 ay2, .int .i32 qy4, .bool qy5, .bool qy6, .int .i64 qy7, .int .i32 qy8, .slice ey0 ey1 ey2, .slice oy0 oy1 oy2] rfl (fun j _ => .same _)
                  have HG2 : Hid (TxD.good ⟨ep, tn, srv, boot, num, r'⟩) := ⟨HG.out.e0, HG.out.e1, HG.out.n0, HG.out.n1, HG.out.s0, HG.out.s1, HG.out.b0, HG.out.b1, HG.out.m0, HG.out.m1, hr2⟩
                  have HVG : Hid (∀ k, Gq k → V.heap.size ≤ k ∧ k < X.heap.size) := HMX.out.2.2.2.1
                  have HV16 : Hid (Below V.heap.size V w16) := ((HW.out _ S15.out.2.1).1).trans ⟨hKe.os, hKe.tape, hKe.output, hKe.size, fun k hk => hKe.block k (by have h1 := ((HW.out _ S15.out.2.1).1).size; omega) (fun e => by have := (HVG.out k e).1; omega)⟩
                  have HX16 : Hid (X.heap.size ≤ w16.heap.size) := Nat.le_trans S15.out.2.1.size hKe.size
                  have S16 : Hid (Fy w X M g bv ⟨a0, a1, a2⟩ ⟨b0, b1, b2⟩ [.int .i8 qy0, .string qy1, .slice dy0 dy1 dy2, .slice ay0 ay1 ay2, .int .i32 qy4, .bool qy5, .bool qy6, .int .i64 qy7, .int .i32 qy8, .slice ey0 ey1 ey2, .slice oy0 oy1 oy2] r' w16) := ⟨S15.out.2.2.1.kept hKe (fun p hp k x hf e => by have h1 := S15.out.2.2.1.base p hp k x hf; have h2 := (HVG.out k e).2; omega), S15.out.2.2.2.kept hKe (fun e => by have h1 := S15.out.1; have h2 := (HVG.out g e).2; omega) (fun k e h => by have h1 := (S15.out.2.2.2.bs.lt k e).1; have h2 := (HVG.out k h).2; omega), HX16.out, (hKe.block M (by have h1 := S15.out.2.1.size; have h2 := HMX.out.1; omega) HMX.out.2.2.1).trans (HW.out _ S15.out.2.1).2.1, RqIn.kept (F' := (· < w16.heap.size)) (Kept.refl w16 (fun _ => False)) (fun k hk => ⟨fun e => e, by have h1 := (HVG.out k hk).2; have h2 := HX16.out; show k < w16.heap.size; omega⟩) hr1, (HD.out _ HV16.out).2.1, (HD.out _ HV16.out).1⟩
                  have HP2 : Hid (r'.parts ≤ 20000 ∧ M < X.heap.size ∧ X.heap.size ≤ g ∧ w.heap.size ≤ X.heap.size) := ⟨by rw [hr3]; exact HP.out, HMX.out.1, S15.out.1, HVX.out⟩
                  clear hTu hKe hr1 hr2 hr3 S15 HW HMX HVG HV16 HX16 HD HG HP HVX
                  go_upto_region 17 with fail
                  go_cut [16] from 22 to 130 (fun v16 wx => WrE w X M g bv ⟨a0, a1, a2⟩ ⟨b0, b1, b2⟩ [.int .i8 qy0, .string qy1, .slice dy0 dy1 dy2, .slice ay0 ay1 ay2, .int .i32 qy4, .bool qy5, .bool qy6, .int .i64 qy7, .int .i32 qy8, .slice ey0 ey1 ey2, .slice oy0 oy1 oy2] ⟨ep, tn, srv, boot, num, r'⟩ v16 wx)
                  case first => as_aux_lemma =>
                    have HCP := copyTxn_any [.int .u32 ep, .int .u32 tn, .int .i8 srv, .int .u32 boot, .int .i64 num, .int .i8 qy0, .string qy1, .slice dy0 dy1 dy2, .slice ay0 ay1 ay2, .int .i32 qy4, .bool qy5, .bool qy6, .int .i64 qy7, .int .i32 qy8, .slice ey0 ey1 ey2, .slice oy0 oy1 oy2] ⟨ep, tn, srv, boot, num, r'⟩ w16 ⟨[.int .i8 qy0, .string qy1, .slice dy0 dy1 dy2, .slice ay0 ay1 ay2, .int .i32 qy4, .bool qy5, .bool qy6, .int .i64 qy7, .int .i32 qy8, .slice ey0 ey1 ey2, .slice oy0 oy1 oy2], rfl, S16.out.rq.sees⟩ HP2.out.1
                    obtain ⟨g0, g1, g2, g3, g4, g5, g6, g7, g8, g9, g10, g11, g12, g13, g14, g15⟩ := HI.out w16 S16.out.row
                    go_wp2_with fail
                    clear g0 g1 g2 g3 g4 g5 g6 g7 g8 g9 g10 g11 g12 g13 g14 g15 HI
                    refine HCP.mono ?_
                    clear HCP
                    rintro _ w17 ⟨ds, rfl, hq, b⟩
                    obtain ⟨qz0, qz1, dz0, dz1, dz2, az0, az1, az2, qz4, qz5, qz6, qz7, qz8, ez0, ez1, ez2, oz0, oz1, oz2, rfl⟩ := rq_forms hq.sees
                    have HB17 : Hid (Below w16.heap.size w16 w17 ∧ SeesRq w17 [.int .i8 qz0, .string qz1, .slice dz0 dz1 dz2, .slice az0 az1 az2, .int .i32 qz4, .bool qz5, .bool qz6, .int .i64 qz7, .int .i32 qz8, .slice ez0 ez1 ez2, .slice oz0 oz1 oz2] r') := ⟨b, hq.sees⟩
                    clear hq b
                    simp only [txHead, List.cons_append, List.nil_append]
                    go_wp2_with fail
                    go_meet
                    exact ⟨w17.heap.size, [.int .i8 qz0, .string qz1, .slice dz0 dz1 dz2, .slice az0 az1 az2, .int .i32 qz4, .bool qz5, .bool qz6, .int .i64 qz7, .int .i32 qz8, .slice ez0 ez1 ez2, .slice oz0 oz1 oz2], rfl, heap_alloc_new _ _, HB17.out.2.later (one_alloc _ _) (Nat.le_refl _), (S16.out.later HP2.out.2.1 HB17.out.1).later HP2.out.2.1 (one_alloc _ _)⟩
                  case rest => as_aux_lemma =>
                    obtain ⟨K, zs, rfl, h1, h2, h3⟩ := hcut
                    obtain ⟨qz0, qz1, dz0, dz1, dz2, az0, az1, az2, qz4, qz5, qz6, qz7, qz8, ez0, ez1, ez2, oz0, oz1, oz2, rfl⟩ := rq_forms h2
                    have S17 : Hid (wc.heap[K]? = some (.cells (txHead ⟨ep, tn, srv, boot, num, r'⟩ ++ ([.int .i8 qz0, .string qz1, .slice dz0 dz1 dz2, .slice az0 az1 az2, .int .i32 qz4, .bool qz5, .bool qz6, .int .i64 qz7, .int .i32 qz8, .slice ez0 ez1 ez2, .slice oz0 oz1 oz2] : List Value)).toArray 35 (0, 0)) ∧ SeesRq wc [.int .i8 qz0, .string qz1, .slice dz0 dz1 dz2, .slice az0 az1 az2, .int .i32 qz4, .bool qz5, .bool qz6, .int .i64 qz7, .int .i32 qz8, .slice ez0 ez1 ez2, .slice oz0 oz1 oz2] r' ∧ Fy w X M g bv ⟨a0, a1, a2⟩ ⟨b0, b1, b2⟩ [.int .i8 qy0, .string qy1, .slice dy0 dy1 dy2, .slice ay0 ay1 ay2, .int .i32 qy4, .bool qy5, .bool qy6, .int .i64 qy7, .int .i32 qy8, .slice ey0 ey1 ey2, .slice oy0 oy1 oy2] r' wc) := ⟨h1, h2, h3⟩
                    clear h1 h2 h3 S16
                    obtain ⟨U, eU⟩ : ∃ U, U = wc := ⟨_, rfl⟩
                    subst eU
                    go_upto_region 18 with fail
                    go_cut [17, 18] from 22 to 130 (fun v17 v18 wx => WrF w X M g bv ⟨a0, a1, a2⟩ ⟨b0, b1, b2⟩ [.int .i8 qy0, .string qy1, .slice dy0 dy1 dy2, .slice ay0 ay1 ay2, .int .i32 qy4, .bool qy5, .bool qy6, .int .i64 qy7, .int .i32 qy8, .slice ey0 ey1 ey2, .slice oy0 oy1 oy2] ⟨ep, tn, srv, boot, num, r'⟩ K [.int .i8 qz0, .string qz1, .slice dz0 dz1 dz2, .slice az0 az1 az2, .int .i32 qz4, .bool qz5, .bool qz6, .int .i64 qz7, .int .i32 qz8, .slice ez0 ez1 ez2, .slice oz0 oz1 oz2] v17 v18 wx)
                    case first => as_aux_lemma =>
                      obtain ⟨g0, g1, g2, g3, g4, g5, g6, g7, g8, g9, g10, g11, g12, g13, g14, g15⟩ := HI.out U S17.out.2.2.row
                      go_wp2_with fail
                      clear g0 g1 g2 g3 g4 g5 g6 g7 g8 g9 g10 g11 g12 g13 g14 g15 HI
                      refine Calls.mono (write_u ⟨ep, tn, srv, boot, num, r'⟩ [.int .i8 qy0, .string qy1, .slice dy0 dy1 dy2, .slice ay0 ay1 ay2, .int .i32 qy4, .bool qy5, .bool qy6, .int .i64 qy7, .int .i32 qy8, .slice ey0 ey1 ey2, .slice oy0 oy1 oy2] U S17.out.2.2.rq HG2.out S17.out.2.2.nam) ?_
                      rintro _ w18 ⟨c0', c1', c2', rfl, ho, hb⟩
                      have S18 : Hid (WrF w X M g bv ⟨a0, a1, a2⟩ ⟨b0, b1, b2⟩ [.int .i8 qy0, .string qy1, .slice dy0 dy1 dy2, .slice ay0 ay1 ay2, .int .i32 qy4, .bool qy5, .bool qy6, .int .i64 qy7, .int .i32 qy8, .slice ey0 ey1 ey2, .slice oy0 oy1 oy2] ⟨ep, tn, srv, boot, num, r'⟩ K [.int .i8 qz0, .string qz1, .slice dz0 dz1 dz2, .slice az0 az1 az2, .int .i32 qz4, .bool qz5, .bool qz6, .int .i64 qz7, .int .i32 qz8, .slice ez0 ez1 ez2, .slice oz0 oz1 oz2] (.slice c0' c1' c2') (.int .i64 (wErr ⟨ep, tn, srv, boot, num, r'⟩)) w18) := ⟨_, _, _, rfl, rfl, (Below.kept hb).heap S17.out.1 (by have := lt_of_block S17.out.1; omega), S17.out.2.1.later hb (Nat.le_refl _), S17.out.2.2.later HP2.out.2.1 hb, S17.out.2.2.bys.add hb S17.out.2.2.base ho (wByt_len _), owns_mono ho S17.out.2.2.base⟩
                      clear ho hb S17
                      go_wp2_with fail
                      go_meet
                      exact S18.out
                    case rest => as_aux_lemma =>
                      clear HI
                      obtain ⟨c0', c1', c2', rfl, rfl, h1, h2, h3, h4, h5⟩ := hcut
                      have S18 : Hid (SeesRq wc [.int .i8 qz0, .string qz1, .slice dz0 dz1 dz2, .slice az0 az1 az2, .int .i32 qz4, .bool qz5, .bool qz6, .int .i64 qz7, .int .i32 qz8, .slice ez0 ez1 ez2, .slice oz0 oz1 oz2] r' ∧ Fy w X M g bv ⟨a0, a1, a2⟩ ⟨b0, b1, b2⟩ [.int .i8 qy0, .string qy1, .slice dy0 dy1 dy2, .slice ay0 ay1 ay2, .int .i32 qy4, .bool qy5, .bool qy6, .int .i64 qy7, .int .i32 qy8, .slice ey0 ey1 ey2, .slice oy0 oy1 oy2] r' wc ∧ Bys X.heap.size [⟨a0, a1, a2⟩, ⟨b0, b1, b2⟩, ⟨c0', c1', c2'⟩] wc ∧ Owns wc X.heap.size (.slice c0' c1' c2') (wByt ⟨ep, tn, srv, boot, num, r'⟩)) := ⟨h2, h3, h4, h5⟩
                      have HK : Hid (wc.heap[K]? = some (.cells (txHead ⟨ep, tn, srv, boot, num, r'⟩ ++ ([.int .i8 qz0, .string qz1, .slice dz0 dz1 dz2, .slice az0 az1 az2, .int .i32 qz4, .bool qz5, .bool qz6, .int .i64 qz7, .int .i32 qz8, .slice ez0 ez1 ez2, .slice oz0 oz1 oz2] : List Value)).toArray 35 (0, 0))) := h1
                      clear h1 h2 h3 h4 h5 S17
                      obtain ⟨w18, e18⟩ : ∃ w18, w18 = wc := ⟨_, rfl⟩
                      subst e18
                      go_upto_region 19 with fail
                      go_cut [19, 20] from 22 to 130 (fun v19 v20 wx => WrG w X g bv ⟨a0, a1, a2⟩ ⟨b0, b1, b2⟩ ⟨c0', c1', c2'⟩ ⟨ep, tn, srv, boot, num, r'⟩ v19 v20 wx)
                      case first => as_aux_lemma =>
                        obtain ⟨g0, g1, g2, g3, g4, g5, g6, g7, g8, g9, g10, g11, g12, g13, g14, g15⟩ : w18.cell? ⟨K, 0, none⟩ = some (.int .u32 ep) ∧ w18.cell? ⟨K, 1, none⟩ = some (.int .u32 tn) ∧ w18.cell? ⟨K, 2, none⟩ = some (.int .i8 srv) ∧ w18.cell? ⟨K, 3, none⟩ = some (.int .u32 boot) ∧ w18.cell? ⟨K, 4, none⟩ = some (.int .i64 num) ∧ w18.cell? ⟨K, 5, none⟩ = some (.int .i8 qz0) ∧ w18.cell? ⟨K, 6, none⟩ = some (.string qz1) ∧ w18.cell? ⟨K, 7, none⟩ = some (.slice dz0 dz1 dz2) ∧ w18.cell? ⟨K, 8, none⟩ = some (.slice az0 az1 az2) ∧ w18.cell? ⟨K, 9, none⟩ = some (.int .i32 qz4) ∧ w18.cell? ⟨K, 10, none⟩ = some (.bool qz5) ∧ w18.cell? ⟨K, 11, none⟩ = some (.bool qz6) ∧ w18.cell? ⟨K, 12, none⟩ = some (.int .i64 qz7) ∧ w18.cell? ⟨K, 13, none⟩ = some (.int .i32 qz8) ∧ w18.cell? ⟨K, 14, none⟩ = some (.slice ez0 ez1 ez2) ∧ w18.cell? ⟨K, 15, none⟩ = some (.slice oz0 oz1 oz2) := by refine ⟨?_, ?_, ?_, ?_, ?_, ?_, ?_, ?_, ?_, ?_, ?_, ?_, ?_, ?_, ?_, ?_⟩ <;> (rw [cell_of_row _ _ _ _ _ _ HK.out]; rfl)
                        go_wp2_with fail
                        clear g0 g1 g2 g3 g4 g5 g6 g7 g8 g9 g10 g11 g12 g13 g14 g15 HK
                        refine Calls.mono (refWrite_u ⟨ep, tn, srv, boot, num, r'⟩ [.int .i8 qz0, .string qz1, .slice dz0 dz1 dz2, .slice az0 az1 az2, .int .i32 qz4, .bool qz5, .bool qz6, .int .i64 qz7, .int .i32 qz8, .slice ez0 ez1 ez2, .slice oz0 oz1 oz2] w18 S18.out.1 HG2.out) ?_
                        rintro _ w19 ⟨d0', d1', d2', rfl, ho, hb⟩
                        have S19 : Hid (WrG w X g bv ⟨a0, a1, a2⟩ ⟨b0, b1, b2⟩ ⟨c0', c1', c2'⟩ ⟨ep, tn, srv, boot, num, r'⟩ (.slice d0' d1' d2') (.int .i64 (wErr ⟨ep, tn, srv, boot, num, r'⟩)) w19) := ⟨w18.heap.size, _, _, _, rfl, rfl, S18.out.2.2.1.later hb, (S18.out.2.1.later HP2.out.2.1 hb).bag, (S18.out.2.1.later HP2.out.2.1 hb).base, Owns.kept S18.out.2.2.2 (Below.kept hb) (fun k e h => by have := (S18.out.2.2.2.lt k e).2; omega), ho, (S18.out.2.1.later HP2.out.2.1 hb).bel⟩
                        clear ho hb S18
                        go_wp2_with fail
                        go_meet
                        exact S19.out
                      case rest => as_aux_lemma =>
                        clear S18 HK
                        obtain ⟨n2, d0', d1', d2', rfl, rfl, h1, h2, h3, h4, h5, h6⟩ := hcut
                        have S19 : Hid (Bys X.heap.size [⟨a0, a1, a2⟩, ⟨b0, b1, b2⟩, ⟨c0', c1', c2'⟩] wc ∧ BagIs wc g bv nilS [⟨a0, a1, a2⟩] [] X.heap.size ∧ X.heap.size ≤ wc.heap.size ∧ Owns wc X.heap.size (.slice c0' c1' c2') (wByt ⟨ep, tn, srv, boot, num, r'⟩) ∧ Owns wc n2 (.slice d0' d1' d2') (wByt ⟨ep, tn, srv, boot, num, r'⟩) ∧ Below w.heap.size w wc) := ⟨h1, h2, h3, h4, h5, h6⟩
                        clear h1 h2 h3 h4 h5 h6 HG2
                        obtain ⟨w19, e19⟩ : ∃ w19, w19 = wc := ⟨_, rfl⟩
                        subst e19
                        obtain ⟨E2, hE2⟩ : ∃ E2, E2 = wErr ⟨ep, tn, srv, boot, num, r'⟩ := ⟨_, rfl⟩
                        rw [← hE2]
                        clear hE2
                        generalize wByt ⟨ep, tn, srv, boot, num, r'⟩ = BT at *
                        have HAD := addBytes_any g bv nilS [⟨a0, a1, a2⟩] [] X.heap.size ⟨b0, b1, b2⟩ w19 S19.out.2.1 (by simp) S19.out.2.2.1
                        go_wp2_with fail
                        refine HAD.mono ?_
                        clear HAD
                        rintro _ w20 ⟨rfl, bv1, hbag, hk, _⟩
                        have S20 : Hid (Bys X.heap.size [⟨a0, a1, a2⟩, ⟨b0, b1, b2⟩, ⟨c0', c1', c2'⟩] w20 ∧ BagIs w20 g bv1 nilS [⟨a0, a1, a2⟩, ⟨b0, b1, b2⟩] [] X.heap.size ∧ X.heap.size ≤ w20.heap.size ∧ Owns w20 X.heap.size (.slice c0' c1' c2') BT ∧ Owns w20 n2 (.slice d0' d1' d2') BT ∧ Below w.heap.size w w20) := ⟨S19.out.1.kept hk (S19.out.1.bag S19.out.2.1), hbag, Nat.le_trans S19.out.2.2.1 hk.size, S19.out.2.2.2.1.bag S19.out.2.1 hk, S19.out.2.2.2.2.1.bag S19.out.2.1 hk, S19.out.2.2.2.2.2.trans (S19.out.2.1.below hk HP2.out.2.2.2 (Nat.le_trans HP2.out.2.2.2 HP2.out.2.2.1))⟩
                        clear hbag hk S19
                        have HAD := addBytes_any g bv1 nilS [⟨a0, a1, a2⟩, ⟨b0, b1, b2⟩] [] X.heap.size ⟨c0', c1', c2'⟩ w20 S20.out.2.1 (by simp) S20.out.2.2.1
                        go_wp2_with fail
                        refine HAD.mono ?_
                        clear HAD
                        rintro _ w21 ⟨rfl, bv2, hbag, hk, _⟩
                        have S21 : Hid (Bys X.heap.size [⟨a0, a1, a2⟩, ⟨b0, b1, b2⟩, ⟨c0', c1', c2'⟩] w21 ∧ BagIs w21 g bv2 nilS [⟨a0, a1, a2⟩, ⟨b0, b1, b2⟩, ⟨c0', c1', c2'⟩] [] X.heap.size ∧ Owns w21 X.heap.size (.slice c0' c1' c2') BT ∧ Owns w21 n2 (.slice d0' d1' d2') BT ∧ Below w.heap.size w w21) := ⟨S20.out.1.kept hk (S20.out.1.bag S20.out.2.1), hbag, S20.out.2.2.2.1.bag S20.out.2.1 hk, S20.out.2.2.2.2.1.bag S20.out.2.1 hk, S20.out.2.2.2.2.2.trans (S20.out.2.1.below hk HP2.out.2.2.2 (Nat.le_trans HP2.out.2.2.2 HP2.out.2.2.1))⟩
                        clear hbag hk S20
                        go_wp2_with fail
                        refine (eqBytes_alike _ _ BT w21 (Sees.own S21.out.2.2.1) (Sees.own S21.out.2.2.2.1)).mono ?_
                        rintro _ w22 ⟨rfl, b⟩
                        have S22 : Hid (Below w.heap.size w w22 ∧ Bys X.heap.size [⟨a0, a1, a2⟩, ⟨b0, b1, b2⟩, ⟨c0', c1', c2'⟩] w22 ∧ BagIs w22 g bv2 nilS [⟨a0, a1, a2⟩, ⟨b0, b1, b2⟩, ⟨c0', c1', c2'⟩] [] X.heap.size) := ⟨S21.out.2.2.2.2.trans (b.mono S21.out.2.2.2.2.size), S21.out.1.later b, S21.out.2.1.kept (Below.kept b) (fun e => by have := lt_of_block S21.out.2.1.row; omega) (fun k e h => by have := (S21.out.2.1.bs.lt k e).2; omega)⟩
                        clear b S21
                        go_wp2_with fail
                        refine (bagApart_b g X.heap.size bv2 _ w22 S22.out.2.2 S22.out.2.1.lies S22.out.2.1.apart (by simp) S22.out.2.1.few).mono ?_
                        rintro _ w24 ⟨rfl, hT⟩
                        have HF : Hid (Below w.heap.size w w24) := S22.out.1.trans (hT.below S22.out.1.size (fun k x hs => by
                          obtain ⟨q, hq, hfq⟩ := hs
                          exact Nat.le_trans HP2.out.2.2.2 (S22.out.2.1.base q hq k x hfq)))
                        clear hT S22
                        go_wp2_with fail
                        go_ret
                        exact ⟨rfl, HF.out⟩
  · go_wp2_with fail
    go_ret
    exact ⟨rfl, (HD.out _ HB2.out).1⟩
end Go.Proofs.YtehgibgeghhloaaGreatDoor
