/- slices.EqualFunc at requests, txn.sameRequest and txn.Same at the same data: true; nothing that was there is changed. -/
import Derived.Test.YtoeialngbbfoeaaGreatDoorWfMJ
import Derived.Test.YtoeialngbbfoeaaGreatDoorEqQJ
import Derived.Test.YtoeialngbbfoeaaGreatDoorWrTJ
import Derived.Test.YtoeialngbbfoeaaGreatDoorWorks4J
import Derived.Deep.MidRow
import Derived.Deep.CutRange
namespace Go.Proofs.YtoeialngbbfoeaaGreatDoor
open Go.RowKit
set_option maxRecDepth 8000

theorem rq_cell1 {w : World} {cs : List Value} {r : Rq} (h : SeesRq w cs r) : cs.toArray.all (·.oneCell') = true := by
  obtain ⟨q0, q1, d0, d1, d2, a0, a1, a2, q4, q5, q6, q7, q8, e0, e1, e2, o0, o1, o2, rfl⟩ := rq_forms h
  simp [Value.oneCell']

/-- Two rows of one's own, each laid behind the other. -/
structure Rows2 (W : World) (t : TypeId) (Z C D : Array Value) (A2 A3 A4 : World) : Prop where
  b2 : Below W.heap.size W A2
  b4 : Below W.heap.size W A4
  s1 : (W.alloc (.cells Z t)).heap[W.heap.size]? = some (.cells Z t (0, 0))
  s3 : A3.heap[W.heap.size + 1]? = some (.cells Z t (0, 0))
  r1 : A4.heap[W.heap.size]? = some (.cells C t (0, 0))
  r2 : A4.heap[W.heap.size + 1]? = some (.cells D t (0, 0))

theorem rows2 (W : World) (t : TypeId) (Z C D : Array Value) : Rows2 W t Z C D ((W.alloc (.cells Z t)).setRow W.heap.size C) (((W.alloc (.cells Z t)).setRow W.heap.size C).alloc (.cells Z t)) ((((W.alloc (.cells Z t)).setRow W.heap.size C).alloc (.cells Z t)).setRow (W.heap.size + 1) D) := by
  have s1 : (W.alloc (.cells Z t)).heap[W.heap.size]? = some (.cells Z t (0, 0)) := heap_alloc_new _ _
  have k2 : Kept (W.alloc (.cells Z t)) ((W.alloc (.cells Z t)).setRow W.heap.size C) (fun k => k = W.heap.size) := ⟨rfl, rfl, rfl, by simp, fun k _ hn => setRow_other _ _ _ _ hn⟩
  have b2 : Below W.heap.size W ((W.alloc (.cells Z t)).setRow W.heap.size C) := (one_alloc W _).trans (k2.below (by simp) (fun k e => by omega))
  have hz : ((W.alloc (.cells Z t)).setRow W.heap.size C).heap.size = W.heap.size + 1 := by simp
  have s3 : (((W.alloc (.cells Z t)).setRow W.heap.size C).alloc (.cells Z t)).heap[W.heap.size + 1]? = some (.cells Z t (0, 0)) := by
    have := heap_alloc_new ((W.alloc (.cells Z t)).setRow W.heap.size C) (.cells Z t (0, 0))
    rw [hz] at this
    exact this
  have r0 := setRow_heap (W.alloc (.cells Z t)) W.heap.size _ C _ _ s1
  have r1 : (((W.alloc (.cells Z t)).setRow W.heap.size C).alloc (.cells Z t)).heap[W.heap.size]? = some (.cells C t (0, 0)) := by
    rw [Below.heap_alloc _ _ _ (by rw [hz]; omega)]; exact r0
  have k4 : Kept (((W.alloc (.cells Z t)).setRow W.heap.size C).alloc (.cells Z t)) ((((W.alloc (.cells Z t)).setRow W.heap.size C).alloc (.cells Z t)).setRow (W.heap.size + 1) D) (fun k => k = W.heap.size + 1) := ⟨rfl, rfl, rfl, by simp, fun k _ hn => setRow_other _ _ _ _ hn⟩
  refine ⟨b2, ?_, s1, s3, ?_, setRow_heap _ _ _ _ _ _ s3⟩
  · exact (b2.alloc b2.size _).trans (k4.below (by simp; omega) (fun k e => by omega))
  · rw [setRow_other _ _ _ _ (by omega)]; exact r1

set_option maxHeartbeats 4000000 in
theorem eqFuncRq_same (n : Nat) (ops : Fin n → Rq) (oc od : Fin n → List Value) (v u : Value) (w : World) (hv : SeesR w v 11 (List.ofFn oc)) (hu : SeesR w u 11 (List.ofFn od)) (hs : ∀ i, SeesRq w (oc i) (ops i)) (ht : ∀ i, SeesRq w (od i) (ops i))
    (hI : ∀ (i : Fin n) (W : World), Below w.heap.size w W → Calls Tryz.prog 19 #[.agg (oc i).toArray, .agg (od i).toArray] W fun e w' => e = .returned (.bool true) ∧ Below W.heap.size W w') :
    Calls Tryz.prog 73 #[v, u, .func (.func 19) #[] #[]] w fun e w' => e = .returned (.bool true) ∧ Below w.heap.size w w' := by
  obtain ⟨ao, cap, rfl, hlc, hcm, _, h3⟩ := hv
  obtain ⟨bo, cbp, rfl, glc, gcm, _, g3⟩ := hu
  unfold maxLen at hcm gcm
  simp only [List.length_ofFn] at hlc glc ⊢
  have HI : Hid _ := hI
  have HS : Hid ((List.ofFn oc = [] ∨ _) ∧ (List.ofFn od = [] ∨ _) ∧ (∀ i, SeesRq w (oc i) (ops i)) ∧ ∀ i, SeesRq w (od i) (ops i)) := ⟨h3, g3, hs, ht⟩
  clear h3 g3 hs ht hI
  go_enter Tryz.func73, Tryz.ntmps73
  go_wp2_with fail
  go_loopw [17] (fun i wr => ∃ k : Nat, k ≤ n ∧ i = .int .i64 k ∧ Hid (Below w.heap.size w wr)) (fun i _ => n - (intOf i).toNat)
  case atStart => exact ⟨0, Nat.zero_le _, rfl, Below.refl _ _⟩
  case round =>
    obtain ⟨k, hk, rfl, HB⟩ := hrel
    by_cases hlt : k < n
    · obtain ⟨h3, g3, hs, ht⟩ := HS.out
      rcases h3 with h3 | ⟨bx, ofx, rfl, h3⟩
      · have : n = 0 := by simpa using congrArg List.length h3
        omega
      rcases g3 with g3 | ⟨b_y, ofy, rfl, g3⟩
      · have : n = 0 := by simpa using congrArg List.length g3
        omega
      have HX := HI.out ⟨k, hlt⟩
      have x1 := rq_cell1 (hs ⟨k, hlt⟩)
      have y1 := rq_cell1 (ht ⟨k, hlt⟩)
      have xl := (hs ⟨k, hlt⟩).len
      have yl := (ht ⟨k, hlt⟩).len
      have hx : wr.rangeAt bx (ofx + k * 11) (oc ⟨k, hlt⟩) := fun j y hj => by
        obtain ⟨hj1, rfl⟩ := List.getElem?_eq_some_iff.1 hj
        have := cell_later (h3 k (by simpa using hlt) j (by omega)) HB.out (Nat.le_refl _)
        simpa [List.getD_eq_getElem?_getD, hj] using this
      have hy : ∀ W, Below w.heap.size w W → W.rangeAt b_y (ofy + k * 11) (od ⟨k, hlt⟩) := fun W hW j y hj => by
        obtain ⟨hj1, rfl⟩ := List.getElem?_eq_some_iff.1 hj
        have := cell_later (g3 k (by simpa using hlt) j (by omega)) hW (Nat.le_refl _)
        simpa [List.getD_eq_getElem?_getD, hj] using this
      clear h3 g3 hs ht
      generalize oc ⟨k, hlt⟩ = X at *
      generalize od ⟨k, hlt⟩ = Y at *
      have R := rows2 wr 33 #[.int .i8 0, .string ⟨#[]⟩, .slice none 0 0, .slice none 0 0, .int .i32 0, .bool false, .bool false, .int .i64 0, .int .i32 0, .slice none 0 0, .slice none 0 0] X.toArray Y.toArray
      have hy2 := hy _ (HB.out.trans (R.b2.mono HB.out.size))
      have s1 := R.s1
      have s3 := R.s3
      have r1 := R.r1
      have r2 := R.r2
      have HB4 : Hid (Below w.heap.size w _) := HB.out.trans (R.b4.mono HB.out.size)
      have qx : (Tryz.prog.info? 33).map (·.size) = some X.length := by rw [xl]; exact rq_size
      have qy : (Tryz.prog.info? 33).map (·.size) = some Y.length := by rw [yl]; exact rq_size
      have qx' : (Tryz.prog.info? 33).map (·.size) = some X.toArray.size := by rw [List.size_toArray]; exact qx
      have qy' : (Tryz.prog.info? 33).map (·.size) = some Y.toArray.size := by rw [List.size_toArray]; exact qy
      clear R hy
      go_upto_region 6 with (first
        | (refine wpList_load_mid rfl 33 _ rfl bx (ofx + k * 11) rfl X _ hx Tryz.underlying33 rfl qx ?_)
        | (refine wpList_store_row rfl 33 _ _ rfl wr.heap.size X.toArray rfl rfl 33 _ s1 qx' (by simp [xl]) x1 ?_))
      clear hx s1
      go_upto_region 7 with (first
        | (refine wpList_load_mid rfl 33 _ rfl b_y (ofy + k * 11) rfl Y _ hy2 Tryz.underlying33 rfl qy ?_)
        | (refine wpList_store_row rfl 33 _ _ rfl (wr.heap.size + 1) Y.toArray rfl rfl 33 _ s3 qy' (by simp [yl]) y1 ?_))
      clear hy2 s3
      have HY := HX _ HB4.out
      generalize ((((wr.alloc _).setRow wr.heap.size X.toArray).alloc _).setRow (wr.heap.size + 1) Y.toArray) = W4 at *
      clear HX HI HS
      go_wp2_with (first
        | (refine wpList_load_row rfl 33 _ rfl wr.heap.size rfl 33 _ (0, 0) _ r1 Tryz.underlying33 rfl qx' ?_)
        | (refine wpList_load_row rfl 33 _ rfl (wr.heap.size + 1) rfl 33 _ (0, 0) _ r2 Tryz.underlying33 rfl qy' ?_))
      go_at_call 19
      refine HY.mono ?_
      rintro e w5 ⟨rfl, b5⟩
      have HR : Hid (Below w.heap.size w w5) := HB4.out.trans (b5.mono HB4.out.size)
      clear HY b5 r1 r2
      go_wp2_with fail
      go_roundw
      case rel => exact ⟨k + 1, by omega, by go_num, HR⟩
      case measure => simp [intOf]; omega
    · obtain rfl : k = n := by omega
      go_wp2_with fail
      go_ret
      exact ⟨rfl, HB.out⟩

set_option maxHeartbeats 4000000 in
theorem sameRequest_same (r : Rq) : ∀ (cs ds : List Value) (w : World), SeesRq w cs r → SeesRq w ds r → Calls Tryz.prog 19 #[.agg cs.toArray, .agg ds.toArray] w fun e w' => e = .returned (.bool true) ∧ Below w.heap.size w w' := by
  induction r with
  | mk f n ops ih =>
    intro cs ds w hcs hds
    obtain ⟨dv, av, wv, ov, oc, rfl, hd, ha, hw, ho, hs⟩ := rq_inv hcs
    obtain ⟨dv', av', wv', ov', oc', rfl, hd', ha', hw', ho', hs'⟩ := rq_inv hds
    obtain ⟨kind, path, data, acl, ver, eph, seq, ses, tmo, who⟩ := f
    simp only at hd ha hw hd' ha' hw'
    have HD : Hid (∀ W : World, Below w.heap.size w W → Calls Tryz.prog 70 #[dv, dv'] W fun e w' => e = .returned (.bool true) ∧ w' = W) := fun W hW =>
      bytesEqual_same dv dv' data W (hd.below hW (Nat.le_refl _)) (hd'.below hW (Nat.le_refl _))
    have HA : Hid (∀ W : World, Below w.heap.size w W → Calls Tryz.prog 71 #[av, av'] W fun e w' => e = .returned (.bool true) ∧ Below W.heap.size W w') := fun W hW => by
      refine (slEqEntry_same av av' acl W (ha.below hW (Nat.le_refl _)) (ha'.below hW (Nat.le_refl _))).mono ?_
      rintro e w' ⟨rfl, h⟩
      exact ⟨rfl, below_of_drewN h⟩
    have HW : Hid (∀ W : World, Below w.heap.size w W → Calls Tryz.prog 72 #[wv, wv'] W fun e w' => e = .returned (.bool true) ∧ Below W.heap.size W w') := fun W hW => by
      refine (slEqId_same wv wv' who W (hw.below hW (Nat.le_refl _)) (hw'.below hW (Nat.le_refl _))).mono ?_
      rintro e w' ⟨rfl, h⟩
      exact ⟨rfl, below_of_drewN h⟩
    have HO : Hid (∀ W : World, Below w.heap.size w W → Calls Tryz.prog 73 #[ov, ov', .func (.func 19) #[] #[]] W fun e w' => e = .returned (.bool true) ∧ Below W.heap.size W w') := fun W hW =>
      eqFuncRq_same n ops oc oc' ov ov' W (ho.below hW (Nat.le_refl _)) (ho'.below hW (Nat.le_refl _)) (fun i => (hs i).later hW (Nat.le_refl _)) (fun i => (hs' i).later hW (Nat.le_refl _))
        (fun i V hV => ih i (oc i) (oc' i) V ((hs i).later (hW.trans (hV.mono hW.size)) (Nat.le_refl _)) ((hs' i).later (hW.trans (hV.mono hW.size)) (Nat.le_refl _)))
    obtain ⟨dx0, dx1, dx2, rfl⟩ := sees_form hd
    obtain ⟨ax0, ax1, ax2, rfl⟩ := seesR_form ha
    obtain ⟨wx0, wx1, wx2, rfl⟩ := seesR_form hw
    obtain ⟨dy0, dy1, dy2, rfl⟩ := sees_form hd'
    obtain ⟨ay0, ay1, ay2, rfl⟩ := seesR_form ha'
    obtain ⟨wy0, wy1, wy2, rfl⟩ := seesR_form hw'
    obtain ⟨ox0, ox2, e1⟩ := seesR_shape ho
    obtain ⟨oy0, oy2, e2⟩ := seesR_shape ho'
    rw [List.length_ofFn] at e1 e2
    subst e1 e2
    clear hd ha hw hd' ha' hw' hcs hds ho ho' ih hs hs'
    simp only [rqCells]
    obtain ⟨V, eV⟩ : ∃ V, V = (w.alloc (.cells #[.int .i8 kind, .string path, .slice dx0 dx1 dx2, .slice ax0 ax1 ax2, .int .i32 ver, .bool eph, .bool seq, .int .i64 ses, .int .i32 tmo, .slice wx0 wx1 wx2, .slice ox0 n ox2] 33)).alloc (.cells #[.int .i8 kind, .string path, .slice dy0 dy1 dy2, .slice ay0 ay1 ay2, .int .i32 ver, .bool eph, .bool seq, .int .i64 ses, .int .i32 tmo, .slice wy0 wy1 wy2, .slice oy0 n oy2] 33) := ⟨_, rfl⟩
    have HV : Hid (Below w.heap.size w V) := by subst eV; exact two_alloc _ _ _
    have HC : Hid (∀ W, Below V.heap.size V W → W.cell? ⟨w.heap.size, 3, none⟩ = some (.slice ax0 ax1 ax2) ∧ W.cell? ⟨w.heap.size, 4, none⟩ = some (.int .i32 ver) ∧ W.cell? ⟨w.heap.size, 5, none⟩ = some (.bool eph) ∧ W.cell? ⟨w.heap.size, 6, none⟩ = some (.bool seq) ∧ W.cell? ⟨w.heap.size, 7, none⟩ = some (.int .i64 ses) ∧ W.cell? ⟨w.heap.size, 8, none⟩ = some (.int .i32 tmo) ∧ W.cell? ⟨w.heap.size, 9, none⟩ = some (.slice wx0 wx1 wx2) ∧ W.cell? ⟨w.heap.size, 10, none⟩ = some (.slice ox0 n ox2) ∧ W.cell? ⟨w.heap.size + 1, 3, none⟩ = some (.slice ay0 ay1 ay2) ∧ W.cell? ⟨w.heap.size + 1, 4, none⟩ = some (.int .i32 ver) ∧ W.cell? ⟨w.heap.size + 1, 5, none⟩ = some (.bool eph) ∧ W.cell? ⟨w.heap.size + 1, 6, none⟩ = some (.bool seq) ∧ W.cell? ⟨w.heap.size + 1, 7, none⟩ = some (.int .i64 ses) ∧ W.cell? ⟨w.heap.size + 1, 8, none⟩ = some (.int .i32 tmo) ∧ W.cell? ⟨w.heap.size + 1, 9, none⟩ = some (.slice wy0 wy1 wy2) ∧ W.cell? ⟨w.heap.size + 1, 10, none⟩ = some (.slice oy0 n oy2)) := by
      intro W hW
      have hx : V.heap[w.heap.size]? = some (.cells #[.int .i8 kind, .string path, .slice dx0 dx1 dx2, .slice ax0 ax1 ax2, .int .i32 ver, .bool eph, .bool seq, .int .i64 ses, .int .i32 tmo, .slice wx0 wx1 wx2, .slice ox0 n ox2] 33 (0, 0)) := by subst eV; rw [Below.heap_alloc _ _ _ (by simp)]; exact heap_alloc_new _ _
      have hy : V.heap[w.heap.size + 1]? = some (.cells #[.int .i8 kind, .string path, .slice dy0 dy1 dy2, .slice ay0 ay1 ay2, .int .i32 ver, .bool eph, .bool seq, .int .i64 ses, .int .i32 tmo, .slice wy0 wy1 wy2, .slice oy0 n oy2] 33 (0, 0)) := by
        subst eV
        have := heap_alloc_new (w.alloc (.cells #[.int .i8 kind, .string path, .slice dx0 dx1 dx2, .slice ax0 ax1 ax2, .int .i32 ver, .bool eph, .bool seq, .int .i64 ses, .int .i32 tmo, .slice wx0 wx1 wx2, .slice ox0 n ox2] 33)) (.cells #[.int .i8 kind, .string path, .slice dy0 dy1 dy2, .slice ay0 ay1 ay2, .int .i32 ver, .bool eph, .bool seq, .int .i64 ses, .int .i32 tmo, .slice wy0 wy1 wy2, .slice oy0 n oy2] 33 (0, 0))
        simpa using this
      have hk := Below.kept hW
      have hx' := hk.heap hx (by have := lt_of_block hx; omega)
      have hy' := hk.heap hy (by have := lt_of_block hy; omega)
      refine ⟨?_, ?_, ?_, ?_, ?_, ?_, ?_, ?_, ?_, ?_, ?_, ?_, ?_, ?_, ?_, ?_⟩
      iterate 8 (rw [cell_of_row _ _ _ _ _ _ hx']; rfl)
      iterate 8 (rw [cell_of_row _ _ _ _ _ _ hy']; rfl)
    have HE : Hid _ := eV
    clear eV
    go_enter Tryz.func19, Tryz.ntmps19
    go_wp2_with fail
    rw [← HE.out]
    refine (HD.out _ HV.out).mono ?_
    rintro e w1 ⟨rfl, h1⟩
    subst w1
    clear HD HE
    obtain ⟨x3, x4, x5, x6, x7, x8, x9, x10, y3, y4, y5, y6, y7, y8, y9, y10⟩ := HC.out _ (Below.refl _ _)
    clear x4 x5 x6 x7 x8 x9 x10 y4 y5 y6 y7 y8 y9 y10
    go_wp2_with fail
    refine (HA.out _ HV.out).mono ?_
    rintro e w2 ⟨rfl, b2⟩
    have HB2 : Hid (Below V.heap.size V w2) := b2
    clear b2 HA x3 y3
    obtain ⟨x3, x4, x5, x6, x7, x8, x9, x10, y3, y4, y5, y6, y7, y8, y9, y10⟩ := HC.out _ HB2.out
    clear x3 y3 x10 y10
    go_wp2_with fail
    refine (HW.out _ (HV.out.trans (HB2.out.mono HV.out.size))).mono ?_
    rintro e w3 ⟨rfl, b3⟩
    have HB3 : Hid (Below V.heap.size V w3) := HB2.out.trans (b3.mono HB2.out.size)
    clear b3 HW HB2 x4 x5 x6 x7 x8 x9 y4 y5 y6 y7 y8 y9
    obtain ⟨x3, x4, x5, x6, x7, x8, x9, x10, y3, y4, y5, y6, y7, y8, y9, y10⟩ := HC.out _ HB3.out
    clear x3 y3 x4 x5 x6 x7 x8 x9 y4 y5 y6 y7 y8 y9 HC
    go_wp2_with fail
    refine (HO.out _ (HV.out.trans (HB3.out.mono HV.out.size))).mono ?_
    rintro e w4 ⟨rfl, b4⟩
    have HB4 : Hid (Below w.heap.size w w4) := HV.out.trans ((HB3.out.trans (b4.mono HB3.out.size)).mono HV.out.size)
    clear b4 HO HB3 HV x10 y10
    go_wp2_with fail
    go_ret
    exact ⟨rfl, HB4.out⟩

end Go.Proofs.YtoeialngbbfoeaaGreatDoor
