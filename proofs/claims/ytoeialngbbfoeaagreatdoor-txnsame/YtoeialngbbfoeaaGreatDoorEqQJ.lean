/- EqRequest and EqTxn of lagoonref00 at two requests, two transactions of the same data: true; nothing that was there is changed. -/
import Derived.Test.YtoeialngbbfoeaaGreatDoorEqRJ
import Derived.Test.YtoeialngbbfoeaaGreatDoorChk2J
import Derived.Deep.RegionHeld
namespace Go.Proofs.YtoeialngbbfoeaaGreatDoor
open Go.RowKit
set_option maxRecDepth 8000

theorem below_of_drewN {w w' : World} (h : ∃ n, w' = w.drewN n) : Below w.heap.size w w' := by
  obtain ⟨n, rfl⟩ := h
  exact below_drewN (Below.refl _ _) _

theorem seesR_shape {w : World} {v : Value} {z : Nat} {cs : List (List Value)} (h : SeesR w v z cs) : ∃ a c, v = .slice a cs.length c := by
  obtain ⟨ao, cap, rfl, _⟩ := h; exact ⟨_, _, rfl⟩

theorem rq_inv {w : World} {cs : List Value} {f : RqF} {n : Nat} {ops : Fin n → Rq} (h : SeesRq w cs (.mk f n ops)) : ∃ dv av wv ov oc, cs = rqCells f dv av wv ov ∧ Sees w dv f.data ∧ SeesR w av 3 (f.acl.map EnD.cells) ∧ SeesR w wv 2 (f.who.map IdD.cells) ∧ SeesR w ov 11 (List.ofFn oc) ∧ ∀ i : Fin n, SeesRq w (oc i) (ops i) := by
  cases h with
  | mk _ _ _ dv av wv ov oc hd ha hw ho hs => exact ⟨dv, av, wv, ov, oc, rfl, hd, ha, hw, ho, hs⟩

theorem keepQ {W W' : World} {N b o c p : Nat} {z0 z1 z2 z3 z4 z5 z6 z7 z8 z9 z10 z11 z12 z13 z14 z15 z16 z17 z18 z19 z20 z21 z22 z23 : Value} (hb : Below W.heap.size W W') (h : W.cell? ⟨N, 10, none⟩ = some z0 ∧ W.cell? ⟨N + 1, 10, none⟩ = some z1 ∧ W.cell? ⟨b, o, none⟩ = some z2 ∧ W.cell? ⟨b, o + 1, none⟩ = some z3 ∧ W.cell? ⟨b, o + 2, none⟩ = some z4 ∧ W.cell? ⟨b, o + 3, none⟩ = some z5 ∧ W.cell? ⟨b, o + 4, none⟩ = some z6 ∧ W.cell? ⟨b, o + 5, none⟩ = some z7 ∧ W.cell? ⟨b, o + 6, none⟩ = some z8 ∧ W.cell? ⟨b, o + 7, none⟩ = some z9 ∧ W.cell? ⟨b, o + 8, none⟩ = some z10 ∧ W.cell? ⟨b, o + 9, none⟩ = some z11 ∧ W.cell? ⟨b, o + 10, none⟩ = some z12 ∧ W.cell? ⟨c, p, none⟩ = some z13 ∧ W.cell? ⟨c, p + 1, none⟩ = some z14 ∧ W.cell? ⟨c, p + 2, none⟩ = some z15 ∧ W.cell? ⟨c, p + 3, none⟩ = some z16 ∧ W.cell? ⟨c, p + 4, none⟩ = some z17 ∧ W.cell? ⟨c, p + 5, none⟩ = some z18 ∧ W.cell? ⟨c, p + 6, none⟩ = some z19 ∧ W.cell? ⟨c, p + 7, none⟩ = some z20 ∧ W.cell? ⟨c, p + 8, none⟩ = some z21 ∧ W.cell? ⟨c, p + 9, none⟩ = some z22 ∧ W.cell? ⟨c, p + 10, none⟩ = some z23) :
    W'.cell? ⟨N, 10, none⟩ = some z0 ∧ W'.cell? ⟨N + 1, 10, none⟩ = some z1 ∧ W'.cell? ⟨b, o, none⟩ = some z2 ∧ W'.cell? ⟨b, o + 1, none⟩ = some z3 ∧ W'.cell? ⟨b, o + 2, none⟩ = some z4 ∧ W'.cell? ⟨b, o + 3, none⟩ = some z5 ∧ W'.cell? ⟨b, o + 4, none⟩ = some z6 ∧ W'.cell? ⟨b, o + 5, none⟩ = some z7 ∧ W'.cell? ⟨b, o + 6, none⟩ = some z8 ∧ W'.cell? ⟨b, o + 7, none⟩ = some z9 ∧ W'.cell? ⟨b, o + 8, none⟩ = some z10 ∧ W'.cell? ⟨b, o + 9, none⟩ = some z11 ∧ W'.cell? ⟨b, o + 10, none⟩ = some z12 ∧ W'.cell? ⟨c, p, none⟩ = some z13 ∧ W'.cell? ⟨c, p + 1, none⟩ = some z14 ∧ W'.cell? ⟨c, p + 2, none⟩ = some z15 ∧ W'.cell? ⟨c, p + 3, none⟩ = some z16 ∧ W'.cell? ⟨c, p + 4, none⟩ = some z17 ∧ W'.cell? ⟨c, p + 5, none⟩ = some z18 ∧ W'.cell? ⟨c, p + 6, none⟩ = some z19 ∧ W'.cell? ⟨c, p + 7, none⟩ = some z20 ∧ W'.cell? ⟨c, p + 8, none⟩ = some z21 ∧ W'.cell? ⟨c, p + 9, none⟩ = some z22 ∧ W'.cell? ⟨c, p + 10, none⟩ = some z23 :=
  ⟨cell_later h.1 hb (Nat.le_refl _), cell_later h.2.1 hb (Nat.le_refl _), cell_later h.2.2.1 hb (Nat.le_refl _), cell_later h.2.2.2.1 hb (Nat.le_refl _), cell_later h.2.2.2.2.1 hb (Nat.le_refl _), cell_later h.2.2.2.2.2.1 hb (Nat.le_refl _), cell_later h.2.2.2.2.2.2.1 hb (Nat.le_refl _), cell_later h.2.2.2.2.2.2.2.1 hb (Nat.le_refl _), cell_later h.2.2.2.2.2.2.2.2.1 hb (Nat.le_refl _), cell_later h.2.2.2.2.2.2.2.2.2.1 hb (Nat.le_refl _), cell_later h.2.2.2.2.2.2.2.2.2.2.1 hb (Nat.le_refl _), cell_later h.2.2.2.2.2.2.2.2.2.2.2.1 hb (Nat.le_refl _), cell_later h.2.2.2.2.2.2.2.2.2.2.2.2.1 hb (Nat.le_refl _), cell_later h.2.2.2.2.2.2.2.2.2.2.2.2.2.1 hb (Nat.le_refl _), cell_later h.2.2.2.2.2.2.2.2.2.2.2.2.2.2.1 hb (Nat.le_refl _), cell_later h.2.2.2.2.2.2.2.2.2.2.2.2.2.2.2.1 hb (Nat.le_refl _), cell_later h.2.2.2.2.2.2.2.2.2.2.2.2.2.2.2.2.1 hb (Nat.le_refl _), cell_later h.2.2.2.2.2.2.2.2.2.2.2.2.2.2.2.2.2.1 hb (Nat.le_refl _), cell_later h.2.2.2.2.2.2.2.2.2.2.2.2.2.2.2.2.2.2.1 hb (Nat.le_refl _), cell_later h.2.2.2.2.2.2.2.2.2.2.2.2.2.2.2.2.2.2.2.1 hb (Nat.le_refl _), cell_later h.2.2.2.2.2.2.2.2.2.2.2.2.2.2.2.2.2.2.2.2.1 hb (Nat.le_refl _), cell_later h.2.2.2.2.2.2.2.2.2.2.2.2.2.2.2.2.2.2.2.2.2.1 hb (Nat.le_refl _), cell_later h.2.2.2.2.2.2.2.2.2.2.2.2.2.2.2.2.2.2.2.2.2.2.1 hb (Nat.le_refl _), cell_later h.2.2.2.2.2.2.2.2.2.2.2.2.2.2.2.2.2.2.2.2.2.2.2 hb (Nat.le_refl _)⟩

set_option maxHeartbeats 4000000 in
theorem eqRequest_same (r : Rq) : ∀ (cs ds : List Value) (w : World), SeesRq w cs r → SeesRq w ds r → Calls Tryz.prog 21 #[.agg cs.toArray, .agg ds.toArray] w fun e w' => e = .returned (.bool true) ∧ Below w.heap.size w w' := by
  induction r with
  | mk f n ops ih =>
    intro cs ds w hcs hds
    obtain ⟨dv, av, wv, ov, oc, rfl, hd, ha, hw, ho, hs⟩ := rq_inv hcs
    obtain ⟨dv', av', wv', ov', oc', rfl, hd', ha', hw', ho', hs'⟩ := rq_inv hds
    obtain ⟨kind, path, data, acl, ver, eph, seq, ses, tmo, who⟩ := f
    simp only at hd ha hw hd' ha' hw'
    have HD : Hid (∀ W : World, Below w.heap.size w W → Calls Tryz.prog 78 #[dv, dv'] W fun e w' => e = .returned (.bool true) ∧ Below W.heap.size W w') := fun W hW => by
      refine (eqBytes_any dv dv' data data W (hd.below hW (Nat.le_refl _)) (hd'.below hW (Nat.le_refl _))).mono ?_
      rintro e w' ⟨rfl, h⟩
      exact ⟨by rw [decide_eq_true rfl], below_of_drewN h⟩
    have HA : Hid (∀ W : World, Below w.heap.size w W → Calls Tryz.prog 79 #[av, av'] W fun e w' => e = .returned (.bool true) ∧ Below W.heap.size W w') := fun W hW => by
      refine (eqAcl_same av av' acl W (ha.below hW (Nat.le_refl _)) (ha'.below hW (Nat.le_refl _))).mono ?_
      rintro e w' ⟨rfl, h⟩
      exact ⟨rfl, below_of_drewN h⟩
    have HW : Hid (∀ W : World, Below w.heap.size w W → Calls Tryz.prog 80 #[wv, wv'] W fun e w' => e = .returned (.bool true) ∧ Below W.heap.size W w') := fun W hW => by
      refine (eqIds_same wv wv' who W (hw.below hW (Nat.le_refl _)) (hw'.below hW (Nat.le_refl _))).mono ?_
      rintro e w' ⟨rfl, h⟩
      exact ⟨rfl, below_of_drewN h⟩
    obtain ⟨dx0, dx1, dx2, rfl⟩ := sees_form hd
    obtain ⟨ax0, ax1, ax2, rfl⟩ := seesR_form ha
    obtain ⟨wx0, wx1, wx2, rfl⟩ := seesR_form hw
    obtain ⟨dy0, dy1, dy2, rfl⟩ := sees_form hd'
    obtain ⟨ay0, ay1, ay2, rfl⟩ := seesR_form ha'
    obtain ⟨wy0, wy1, wy2, rfl⟩ := seesR_form hw'
    obtain ⟨ox0, ox2, e1⟩ := seesR_shape ho
    obtain ⟨oy0, oy2, e2⟩ := seesR_shape ho'
    rw [List.length_ofFn] at e1 e2
    subst e1 e2
    have HO : Hid (SeesR w (.slice ox0 n ox2) 11 (List.ofFn oc) ∧ SeesR w (.slice oy0 n oy2) 11 (List.ofFn oc')) := ⟨ho, ho'⟩
    have HI : Hid _ := ih
    have HS : Hid (∀ W : World, Below w.heap.size w W → ∀ i, SeesRq W (oc i) (ops i) ∧ SeesRq W (oc' i) (ops i)) := fun W hW i => ⟨(hs i).later hW (Nat.le_refl _), (hs' i).later hW (Nat.le_refl _)⟩
    have hcap : n ≤ ox2 ∧ n ≤ oy2 ∧ ox2 ≤ 9223372036854775807 ∧ oy2 ≤ 9223372036854775807 := by
      obtain ⟨a1, c1, q1, q2, q3, _⟩ := ho
      obtain ⟨a2, c2, r1, r2, r3, _⟩ := ho'
      simp at q1 r1 q2 r2
      unfold maxLen at q3 r3
      omega
    obtain ⟨hcx, hcy, hcx', hcy'⟩ := hcap
    clear hd ha hw hd' ha' hw' hcs hds ho ho' ih hs hs'
    simp only [rqCells]
    obtain ⟨V, eV⟩ : ∃ V, V = (w.alloc (.cells #[.int .i8 kind, .string path, .slice dx0 dx1 dx2, .slice ax0 ax1 ax2, .int .i32 ver, .bool eph, .bool seq, .int .i64 ses, .int .i32 tmo, .slice wx0 wx1 wx2, .slice ox0 n ox2] 33)).alloc (.cells #[.int .i8 kind, .string path, .slice dy0 dy1 dy2, .slice ay0 ay1 ay2, .int .i32 ver, .bool eph, .bool seq, .int .i64 ses, .int .i32 tmo, .slice wy0 wy1 wy2, .slice oy0 n oy2] 33) := ⟨_, rfl⟩
    have HV : Hid (Below w.heap.size w V) := by subst eV; exact two_alloc _ _ _
    have HC : Hid (∀ W, Below V.heap.size V W → W.cell? ⟨w.heap.size, 3, none⟩ = some (.slice ax0 ax1 ax2) ∧ W.cell? ⟨w.heap.size, 9, none⟩ = some (.slice wx0 wx1 wx2) ∧ W.cell? ⟨w.heap.size, 10, none⟩ = some (.slice ox0 n ox2) ∧ W.cell? ⟨w.heap.size + 1, 3, none⟩ = some (.slice ay0 ay1 ay2) ∧ W.cell? ⟨w.heap.size + 1, 9, none⟩ = some (.slice wy0 wy1 wy2) ∧ W.cell? ⟨w.heap.size + 1, 10, none⟩ = some (.slice oy0 n oy2)) := by
      intro W hW
      have hx : V.heap[w.heap.size]? = some (.cells #[.int .i8 kind, .string path, .slice dx0 dx1 dx2, .slice ax0 ax1 ax2, .int .i32 ver, .bool eph, .bool seq, .int .i64 ses, .int .i32 tmo, .slice wx0 wx1 wx2, .slice ox0 n ox2] 33 (0, 0)) := by subst eV; rw [Below.heap_alloc _ _ _ (by simp)]; exact heap_alloc_new _ _
      have hy : V.heap[w.heap.size + 1]? = some (.cells #[.int .i8 kind, .string path, .slice dy0 dy1 dy2, .slice ay0 ay1 ay2, .int .i32 ver, .bool eph, .bool seq, .int .i64 ses, .int .i32 tmo, .slice wy0 wy1 wy2, .slice oy0 n oy2] 33 (0, 0)) := by
        subst eV
        have := heap_alloc_new (w.alloc (.cells #[.int .i8 kind, .string path, .slice dx0 dx1 dx2, .slice ax0 ax1 ax2, .int .i32 ver, .bool eph, .bool seq, .int .i64 ses, .int .i32 tmo, .slice wx0 wx1 wx2, .slice ox0 n ox2] 33)) (.cells #[.int .i8 kind, .string path, .slice dy0 dy1 dy2, .slice ay0 ay1 ay2, .int .i32 ver, .bool eph, .bool seq, .int .i64 ses, .int .i32 tmo, .slice wy0 wy1 wy2, .slice oy0 n oy2] 33 (0, 0))
        simpa using this
      have hk := Below.kept hW
      have hx' := hk.heap hx (by have := lt_of_block hx; omega)
      have hy' := hk.heap hy (by have := lt_of_block hy; omega)
      refine ⟨?_, ?_, ?_, ?_, ?_, ?_⟩
      iterate 3 (rw [cell_of_row _ _ _ _ _ _ hx']; rfl)
      iterate 3 (rw [cell_of_row _ _ _ _ _ _ hy']; rfl)
    have HE : Hid _ := eV
    clear eV
    go_enter Tryz.func21, Tryz.ntmps21
    go_wp2_with fail
    rw [← HE.out]
    refine (HD.out _ HV.out).mono ?_
    rintro e w1 ⟨rfl, b1⟩
    have HB1 : Hid (Below V.heap.size V w1) := b1
    clear b1 HD HE
    obtain ⟨x3, x9, x10, y3, y9, y10⟩ := HC.out _ HB1.out
    go_wp2_with fail
    refine (HA.out _ (HV.out.trans (HB1.out.mono HV.out.size))).mono ?_
    rintro e w2 ⟨rfl, b2⟩
    have HB2 : Hid (Below V.heap.size V w2) := HB1.out.trans (b2.mono HB1.out.size)
    clear b2 HA HB1 x3 x9 x10 y3 y9 y10
    obtain ⟨x3, x9, x10, y3, y9, y10⟩ := HC.out _ HB2.out
    go_wp2_with fail
    refine (HW.out _ (HV.out.trans (HB2.out.mono HV.out.size))).mono ?_
    rintro e w3 ⟨rfl, b3⟩
    have HB3 : Hid (Below V.heap.size V w3) := HB2.out.trans (b3.mono HB2.out.size)
    clear b3 HW HB2 x3 x9 x10 y3 y9 y10
    obtain ⟨_, _, x10, _, _, y10⟩ := HC.out _ HB3.out
    go_wp2_with fail
    go_loopw [5] (fun i wr => ∃ k : Nat, k ≤ n ∧ i = .int .i64 k ∧ Below V.heap.size V wr) (fun i _ => n - (intOf i).toNat)
    case atStart => exact ⟨0, Nat.zero_le _, rfl, HB3.out⟩
    case round =>
      obtain ⟨k, hk, rfl, hbel⟩ := hrel
      have HB : Hid (Below V.heap.size V wr) := hbel
      clear HB3 x10 y10 hbel
      obtain ⟨_, _, x10, _, _, y10⟩ := HC.out _ HB.out
      by_cases hlt : k < n
      · obtain ⟨a1, c1, q1, _, _, _, h3⟩ := HO.out.1
        obtain ⟨a2, c2, q2, _, _, _, g3⟩ := HO.out.2
        simp at q1 q2
        obtain ⟨rfl, rfl⟩ := q1
        obtain ⟨rfl, rfl⟩ := q2
        rcases h3 with h3 | ⟨bx, ofx, rfl, h3⟩
        · have : n = 0 := by simpa using congrArg List.length h3
          omega
        rcases g3 with g3 | ⟨b_y, ofy, rfl, g3⟩
        · have : n = 0 := by simpa using congrArg List.length g3
          omega
        have hwr : Below w.heap.size w wr := HV.out.trans (HB.out.mono HV.out.size)
        have hwd : Below w.heap.size w wr.drew := below_drewN hwr 1
        obtain ⟨qu0, qu1, du0, du1, du2, au0, au1, au2, qu4, qu5, qu6, qu7, qu8, eu0, eu1, eu2, ou0, ou1, ou2, hcs⟩ := rq_forms (HS.out _ hwr ⟨k, hlt⟩).1
        obtain ⟨qv0, qv1, dv0, dv1, dv2, av0, av1, av2, qv4, qv5, qv6, qv7, qv8, ev0, ev1, ev2, ov0, ov1, ov2, hds⟩ := rq_forms (HS.out _ hwr ⟨k, hlt⟩).2
        have hat : ∀ j, j < 11 → wr.drew.cell? ⟨bx, ofx + k * 11 + j, none⟩ = some ((oc ⟨k, hlt⟩).getD j (.bool false)) := fun j hj => by
          have := cell_later (h3 k (by simpa using hlt) j hj) hwd (Nat.le_refl _)
          simpa using this
        have gat : ∀ j, j < 11 → wr.drew.cell? ⟨b_y, ofy + k * 11 + j, none⟩ = some ((oc' ⟨k, hlt⟩).getD j (.bool false)) := fun j hj => by
          have := cell_later (g3 k (by simpa using hlt) j hj) hwd (Nat.le_refl _)
          simpa using this
        have HX := HI.out ⟨k, hlt⟩ _ _ wr.drew (HS.out _ hwd ⟨k, hlt⟩).1 (HS.out _ hwd ⟨k, hlt⟩).2
        rw [hcs] at hat HX
        rw [hds] at gat HX
        have k0 : wr.drew.cell? ⟨w.heap.size, 10, none⟩ = some (.slice (some ⟨bx, ofx, none⟩) n ox2) ∧ wr.drew.cell? ⟨w.heap.size + 1, 10, none⟩ = some (.slice (some ⟨b_y, ofy, none⟩) n oy2) ∧ wr.drew.cell? ⟨bx, ofx + k * 11, none⟩ = some (.int .i8 qu0) ∧ wr.drew.cell? ⟨bx, ofx + k * 11 + 1, none⟩ = some (.string qu1) ∧ wr.drew.cell? ⟨bx, ofx + k * 11 + 2, none⟩ = some (.slice du0 du1 du2) ∧ wr.drew.cell? ⟨bx, ofx + k * 11 + 3, none⟩ = some (.slice au0 au1 au2) ∧ wr.drew.cell? ⟨bx, ofx + k * 11 + 4, none⟩ = some (.int .i32 qu4) ∧ wr.drew.cell? ⟨bx, ofx + k * 11 + 5, none⟩ = some (.bool qu5) ∧ wr.drew.cell? ⟨bx, ofx + k * 11 + 6, none⟩ = some (.bool qu6) ∧ wr.drew.cell? ⟨bx, ofx + k * 11 + 7, none⟩ = some (.int .i64 qu7) ∧ wr.drew.cell? ⟨bx, ofx + k * 11 + 8, none⟩ = some (.int .i32 qu8) ∧ wr.drew.cell? ⟨bx, ofx + k * 11 + 9, none⟩ = some (.slice eu0 eu1 eu2) ∧ wr.drew.cell? ⟨bx, ofx + k * 11 + 10, none⟩ = some (.slice ou0 ou1 ou2) ∧ wr.drew.cell? ⟨b_y, ofy + k * 11, none⟩ = some (.int .i8 qv0) ∧ wr.drew.cell? ⟨b_y, ofy + k * 11 + 1, none⟩ = some (.string qv1) ∧ wr.drew.cell? ⟨b_y, ofy + k * 11 + 2, none⟩ = some (.slice dv0 dv1 dv2) ∧ wr.drew.cell? ⟨b_y, ofy + k * 11 + 3, none⟩ = some (.slice av0 av1 av2) ∧ wr.drew.cell? ⟨b_y, ofy + k * 11 + 4, none⟩ = some (.int .i32 qv4) ∧ wr.drew.cell? ⟨b_y, ofy + k * 11 + 5, none⟩ = some (.bool qv5) ∧ wr.drew.cell? ⟨b_y, ofy + k * 11 + 6, none⟩ = some (.bool qv6) ∧ wr.drew.cell? ⟨b_y, ofy + k * 11 + 7, none⟩ = some (.int .i64 qv7) ∧ wr.drew.cell? ⟨b_y, ofy + k * 11 + 8, none⟩ = some (.int .i32 qv8) ∧ wr.drew.cell? ⟨b_y, ofy + k * 11 + 9, none⟩ = some (.slice ev0 ev1 ev2) ∧ wr.drew.cell? ⟨b_y, ofy + k * 11 + 10, none⟩ = some (.slice ov0 ov1 ov2) := ⟨x10, y10, hat 0 (by omega), hat 1 (by omega), hat 2 (by omega), hat 3 (by omega), hat 4 (by omega), hat 5 (by omega), hat 6 (by omega), hat 7 (by omega), hat 8 (by omega), hat 9 (by omega), hat 10 (by omega), gat 0 (by omega), gat 1 (by omega), gat 2 (by omega), gat 3 (by omega), gat 4 (by omega), gat 5 (by omega), gat 6 (by omega), gat 7 (by omega), gat 8 (by omega), gat 9 (by omega), gat 10 (by omega)⟩
        clear h3 g3 hat gat hcs hds hwr hwd
        go_wp2_with fail
        go_region_held (fun w' => w'.cell? ⟨w.heap.size, 10, none⟩ = some (.slice (some ⟨bx, ofx, none⟩) n ox2) ∧ w'.cell? ⟨w.heap.size + 1, 10, none⟩ = some (.slice (some ⟨b_y, ofy, none⟩) n oy2) ∧ w'.cell? ⟨bx, ofx + k * 11, none⟩ = some (.int .i8 qu0) ∧ w'.cell? ⟨bx, ofx + k * 11 + 1, none⟩ = some (.string qu1) ∧ w'.cell? ⟨bx, ofx + k * 11 + 2, none⟩ = some (.slice du0 du1 du2) ∧ w'.cell? ⟨bx, ofx + k * 11 + 3, none⟩ = some (.slice au0 au1 au2) ∧ w'.cell? ⟨bx, ofx + k * 11 + 4, none⟩ = some (.int .i32 qu4) ∧ w'.cell? ⟨bx, ofx + k * 11 + 5, none⟩ = some (.bool qu5) ∧ w'.cell? ⟨bx, ofx + k * 11 + 6, none⟩ = some (.bool qu6) ∧ w'.cell? ⟨bx, ofx + k * 11 + 7, none⟩ = some (.int .i64 qu7) ∧ w'.cell? ⟨bx, ofx + k * 11 + 8, none⟩ = some (.int .i32 qu8) ∧ w'.cell? ⟨bx, ofx + k * 11 + 9, none⟩ = some (.slice eu0 eu1 eu2) ∧ w'.cell? ⟨bx, ofx + k * 11 + 10, none⟩ = some (.slice ou0 ou1 ou2) ∧ w'.cell? ⟨b_y, ofy + k * 11, none⟩ = some (.int .i8 qv0) ∧ w'.cell? ⟨b_y, ofy + k * 11 + 1, none⟩ = some (.string qv1) ∧ w'.cell? ⟨b_y, ofy + k * 11 + 2, none⟩ = some (.slice dv0 dv1 dv2) ∧ w'.cell? ⟨b_y, ofy + k * 11 + 3, none⟩ = some (.slice av0 av1 av2) ∧ w'.cell? ⟨b_y, ofy + k * 11 + 4, none⟩ = some (.int .i32 qv4) ∧ w'.cell? ⟨b_y, ofy + k * 11 + 5, none⟩ = some (.bool qv5) ∧ w'.cell? ⟨b_y, ofy + k * 11 + 6, none⟩ = some (.bool qv6) ∧ w'.cell? ⟨b_y, ofy + k * 11 + 7, none⟩ = some (.int .i64 qv7) ∧ w'.cell? ⟨b_y, ofy + k * 11 + 8, none⟩ = some (.int .i32 qv8) ∧ w'.cell? ⟨b_y, ofy + k * 11 + 9, none⟩ = some (.slice ev0 ev1 ev2) ∧ w'.cell? ⟨b_y, ofy + k * 11 + 10, none⟩ = some (.slice ov0 ov1 ov2)) (first | exact k0 | exact k1)
          (first | (go_at_call 21; refine HX.mono ?_; rintro e w5 ⟨rfl, hb⟩; have k1 := keepQ hb k0; have HB5 : Hid (Below V.heap.size V w5) := (below_drewN HB.out 1).trans (hb.mono (below_drewN HB.out 1).size); clear k0 hb HB HX))
        clear x10 y10 k1
        go_wp2_with fail
        go_roundw
        case rel => exact ⟨k + 1, by omega, by go_num, HB5.out⟩
        case measure => simp [intOf]; omega
      · obtain rfl : k = n := by omega
        go_wp2_with fail
        go_ret
        exact ⟨rfl, HV.out.trans (HB.out.mono HV.out.size)⟩
end Go.Proofs.YtoeialngbbfoeaaGreatDoor
