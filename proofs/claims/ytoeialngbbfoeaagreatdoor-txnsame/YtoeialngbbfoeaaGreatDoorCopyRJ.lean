/- CopyRequest of lagoonref00: the same request in blocks of its own. -/
import Derived.Test.YtoeialngbbfoeaaGreatDoorCopyTJ
import Derived.Deep.RegionLaw
namespace Go.Proofs.YtoeialngbbfoeaaGreatDoor
open Go.RowKit
set_option maxRecDepth 8000

set_option maxHeartbeats 4000000 in
theorem copyRequest_any (r : Rq) : ∀ (cs : List Value) (w : World), SeesRq w cs r → r.parts ≤ 20000 →
    Calls Tryz.prog 51 #[.agg cs.toArray] w fun e w' => ∃ ds, e = .returned (.agg ds.toArray) ∧ RqIn w' (fun k => w.heap.size ≤ k ∧ k < w'.heap.size) ds r ∧ Below w.heap.size w w' := by
  induction r with
  | mk f n ops ih =>
    intro cs w hcs hp
    obtain ⟨dv, av, wv, ov, oc, rfl, hd, ha, hw, ho, hs⟩ := rq_inv hcs
    rw [Rq.parts_eq] at hp
    have hpn := partsTo_le ops n (Nat.le_refl _)
    have hfp : f.parts = 1 + f.data.length + f.acl.length + f.who.length := rfl
    have hpi : ∀ i : Fin n, (ops i).parts ≤ 20000 := fun i => by have := part_le ops i; omega
    obtain ⟨kind, path, data, acl, ver, eph, seq, ses, tmo, who⟩ := f
    simp only at hd ha hw hfp
    have HD : Hid (∀ W : World, Below w.heap.size w W → Calls Tryz.prog 103 #[dv] W fun e w' => ∃ v', e = .returned v' ∧ Owns w' W.heap.size v' data ∧ Below W.heap.size W w') := fun W hW => copyBytes_any dv data W (hd.below hW (Nat.le_refl _)) (by omega)
    have HA : Hid (∀ W : World, Below w.heap.size w W → Calls Tryz.prog 104 #[av] W fun e w' => ∃ v', e = .returned v' ∧ w'.ownsRow W.heap.size 105 3 v' (acl.map EnD.cells).length (acl.map EnD.cells).flatten ∧ Below W.heap.size W w') := fun W hW => copyAcl_any av acl W (ha.below hW (Nat.le_refl _)) (by omega)
    have HW : Hid (∀ W : World, Below w.heap.size w W → Calls Tryz.prog 105 #[wv] W fun e w' => ∃ v', e = .returned v' ∧ w'.ownsRow W.heap.size 103 2 v' (who.map IdD.cells).length (who.map IdD.cells).flatten ∧ Below W.heap.size W w') := fun W hW => copyIds_any wv who W (hw.below hW (Nat.le_refl _)) (by omega)
    obtain ⟨da, dl, dc, rfl⟩ := sees_form hd
    obtain ⟨aa, al, ac, rfl⟩ := seesR_form ha
    obtain ⟨wa, wl, wc', rfl⟩ := seesR_form hw
    obtain ⟨oa, occ, e3⟩ := seesR_shape ho
    rw [List.length_ofFn] at e3
    subst e3
    have HO : Hid (SeesR w (.slice oa n occ) 11 (List.ofFn oc)) := ho
    have hcap : n ≤ occ ∧ occ ≤ 9223372036854775807 := by
      obtain ⟨a1, c1, q1, q2, q3, _⟩ := ho
      simp at q1 q2
      unfold maxLen at q3
      omega
    obtain ⟨hcx, hcx'⟩ := hcap
    have hn : n ≤ 20000 := by omega
    have HI : Hid (∀ (i : Fin n) (W : World), Below w.heap.size w W → Calls Tryz.prog 51 #[.agg (oc i).toArray] W fun e w' => ∃ ds, e = .returned (.agg ds.toArray) ∧ RqIn w' (fun k => W.heap.size ≤ k ∧ k < w'.heap.size) ds (ops i) ∧ Below W.heap.size W w') := fun i W hW =>
      ih i (oc i) W ((hs i).later hW (Nat.le_refl _)) (hpi i)
    have HS : Hid (∀ i, SeesRq w (oc i) (ops i)) := hs
    clear hd ha hw hcs ho ih hs hp hpn hfp hpi
    simp only [rqCells]
    obtain ⟨V, eV⟩ : ∃ V, V = ((w.alloc (.cells #[.int .i8 kind, .string path, .slice da dl dc, .slice aa al ac, .int .i32 ver, .bool eph, .bool seq, .int .i64 ses, .int .i32 tmo, .slice wa wl wc', .slice oa n occ] 33)).alloc (.cells rqZ 33)).alloc (.cells #[.int .i8 kind, .string path, .slice da dl dc, .slice aa al ac, .int .i32 ver, .bool eph, .bool seq, .int .i64 ses, .int .i32 tmo, .slice wa wl wc', .slice oa n occ] 33) := ⟨_, rfl⟩
    have HV : Hid (CS w V #[.int .i8 kind, .string path, .slice da dl dc, .slice aa al ac, .int .i32 ver, .bool eph, .bool seq, .int .i64 ses, .int .i32 tmo, .slice wa wl wc', .slice oa n occ] #[.int .i8 kind, .string path, .slice da dl dc, .slice aa al ac, .int .i32 ver, .bool eph, .bool seq, .int .i64 ses, .int .i32 tmo, .slice wa wl wc', .slice oa n occ] ∧ V.heap.size = w.heap.size + 3) := by
      subst eV
      refine ⟨⟨?_, ?_, ?_, ?_⟩, by simp⟩
      · rw [Below.heap_alloc _ _ _ (by simp; omega), Below.heap_alloc _ _ _ (by simp)]; exact heap_alloc_new _ _
      · rw [Below.heap_alloc _ _ _ (by simp)]
        have := heap_alloc_new (w.alloc (.cells #[.int .i8 kind, .string path, .slice da dl dc, .slice aa al ac, .int .i32 ver, .bool eph, .bool seq, .int .i64 ses, .int .i32 tmo, .slice wa wl wc', .slice oa n occ] 33)) (.cells rqZ 33 (0, 0))
        simpa using this
      · have := heap_alloc_new ((w.alloc (.cells #[.int .i8 kind, .string path, .slice da dl dc, .slice aa al ac, .int .i32 ver, .bool eph, .bool seq, .int .i64 ses, .int .i32 tmo, .slice wa wl wc', .slice oa n occ] 33)).alloc (.cells rqZ 33)) (.cells #[.int .i8 kind, .string path, .slice da dl dc, .slice aa al ac, .int .i32 ver, .bool eph, .bool seq, .int .i64 ses, .int .i32 tmo, .slice wa wl wc', .slice oa n occ] 33 (0, 0))
        simpa using this
      · exact (two_alloc w _ _).alloc (by simp; omega) _
    have HE : Hid _ := eV
    clear eV
    go_enter Tryz.func51, Tryz.ntmps51
    go_wp2_with fail
    rw [← HE.out]
    refine (HD.out _ HV.out.1.bel).mono ?_
    rintro e w1 ⟨v1, rfl, ho1, b1⟩
    obtain ⟨d0, d1, d2, rfl⟩ := owns_shape ho1
    have h1 := HV.out.1.later b1
    have HC1 : Hid (CS w (w1.setCell ⟨w.heap.size + 2, 2, none⟩ (.slice d0 d1 d2)) #[.int .i8 kind, .string path, .slice da dl dc, .slice aa al ac, .int .i32 ver, .bool eph, .bool seq, .int .i64 ses, .int .i32 tmo, .slice wa wl wc', .slice oa n occ] #[.int .i8 kind, .string path, .slice d0 d1 d2, .slice aa al ac, .int .i32 ver, .bool eph, .bool seq, .int .i64 ses, .int .i32 tmo, .slice wa wl wc', .slice oa n occ]) := h1.set 2 (.slice d0 d1 d2)
    have HK1 : Hid (Sees w1 (.slice d0 d1 d2) data ∧ ∀ k, (Value.slice d0 d1 d2).ownBlock = some k → w.heap.size + 3 ≤ k ∧ k < w1.heap.size) := ⟨Sees.own ho1, fun k hk => by have := ho1.lt k hk; have := HV.out.2; omega⟩
    have c1 := h1.cc 2
    have f1 := h1.cf 2
    have x3 := h1.rc 3
    simp at c1 x3
    clear ho1 b1 h1 HD HE
    go_wp2_with fail
    clear c1 f1 x3
    refine (HA.out _ HC1.out.bel).mono ?_
    rintro e w2 ⟨v2, rfl, ho2, b2⟩
    obtain ⟨a0, a1, a2, rfl⟩ := row_shape ho2
    have h2 := HC1.out.later b2
    have HC2 : Hid (CS w (w2.setCell ⟨w.heap.size + 2, 3, none⟩ (.slice a0 a1 a2)) #[.int .i8 kind, .string path, .slice da dl dc, .slice aa al ac, .int .i32 ver, .bool eph, .bool seq, .int .i64 ses, .int .i32 tmo, .slice wa wl wc', .slice oa n occ] #[.int .i8 kind, .string path, .slice d0 d1 d2, .slice a0 a1 a2, .int .i32 ver, .bool eph, .bool seq, .int .i64 ses, .int .i32 tmo, .slice wa wl wc', .slice oa n occ]) := h2.set 3 (.slice a0 a1 a2)
    have hka : Kept w1 w2 (fun k => k = w.heap.size + 2) := ((Kept.refl w1 (fun k => k = w.heap.size + 2)).setCell ⟨w.heap.size + 2, 2, none⟩ (.slice d0 d1 d2) (fun _ => rfl)).trans (Below.kept b2) (fun k hk e => by have := (show w1.heap.size ≤ k by simpa using e); omega)
    have HK2 : Hid (Sees w2 (.slice d0 d1 d2) data ∧ SeesR w2 (.slice a0 a1 a2) 3 (acl.map EnD.cells) ∧ (∀ k, (Value.slice d0 d1 d2).ownBlock = some k → w.heap.size + 3 ≤ k ∧ k < w2.heap.size) ∧ (∀ k, (Value.slice a0 a1 a2).ownBlock = some k → w.heap.size + 3 ≤ k ∧ k < w2.heap.size)) := by
      refine ⟨HK1.out.1.kept hka (fun k hk e => by have := HK1.out.2 k hk; omega), seesR_own ho2 (fun c hc => ?_), fun k hk => ?_, fun k hk => ?_⟩
      · obtain ⟨x, _, rfl⟩ := List.mem_map.1 hc; rfl
      · have := HK1.out.2 k hk; have := hka.size; omega
      · have := ho2.lt k hk
        have h3 : w1.heap.size ≤ k := by simpa using this.1
        have := HC1.out.lt
        have h4 : w.heap.size + 3 ≤ w1.heap.size := by simpa using this
        omega
    have c1 := h2.cc 3
    have f1 := h2.cf 3
    have x9 := h2.rc 9
    simp at c1 x9
    clear ho2 b2 h2 HA hka HK1 HC1
    go_wp2_with fail
    clear c1 f1 x9
    refine (HW.out _ HC2.out.bel).mono ?_
    rintro e w3 ⟨v3, rfl, ho3, b3⟩
    obtain ⟨e0, e1, e2, rfl⟩ := row_shape ho3
    have h3 := HC2.out.later b3
    have HC3 : Hid (CS w ((w3.setCell ⟨w.heap.size + 2, 9, none⟩ (.slice e0 e1 e2)).setCell ⟨w.heap.size + 2, 10, none⟩ (.slice none 0 0)) #[.int .i8 kind, .string path, .slice da dl dc, .slice aa al ac, .int .i32 ver, .bool eph, .bool seq, .int .i64 ses, .int .i32 tmo, .slice wa wl wc', .slice oa n occ] #[.int .i8 kind, .string path, .slice d0 d1 d2, .slice a0 a1 a2, .int .i32 ver, .bool eph, .bool seq, .int .i64 ses, .int .i32 tmo, .slice e0 e1 e2, .slice none 0 0]) := (h3.set 9 (.slice e0 e1 e2)).set 10 (.slice none 0 0)
    have hka : Kept w2 w3 (fun k => k = w.heap.size + 2) := ((Kept.refl w2 (fun k => k = w.heap.size + 2)).setCell ⟨w.heap.size + 2, 3, none⟩ (.slice a0 a1 a2) (fun _ => rfl)).trans (Below.kept b3) (fun k hk e => by have := (show w2.heap.size ≤ k by simpa using e); omega)
    have hkb : Kept w3 ((w3.setCell ⟨w.heap.size + 2, 9, none⟩ (.slice e0 e1 e2)).setCell ⟨w.heap.size + 2, 10, none⟩ (.slice none 0 0)) (fun k => k = w.heap.size + 2) := ((Kept.refl w3 (fun k => k = w.heap.size + 2)).setCell ⟨w.heap.size + 2, 9, none⟩ (.slice e0 e1 e2) (fun _ => rfl)).setCell ⟨w.heap.size + 2, 10, none⟩ (.slice none 0 0) (fun _ => rfl)
    have HK3 : Hid (Sees ((w3.setCell ⟨w.heap.size + 2, 9, none⟩ (.slice e0 e1 e2)).setCell ⟨w.heap.size + 2, 10, none⟩ (.slice none 0 0)) (.slice d0 d1 d2) data ∧ SeesR ((w3.setCell ⟨w.heap.size + 2, 9, none⟩ (.slice e0 e1 e2)).setCell ⟨w.heap.size + 2, 10, none⟩ (.slice none 0 0)) (.slice a0 a1 a2) 3 (acl.map EnD.cells) ∧ SeesR ((w3.setCell ⟨w.heap.size + 2, 9, none⟩ (.slice e0 e1 e2)).setCell ⟨w.heap.size + 2, 10, none⟩ (.slice none 0 0)) (.slice e0 e1 e2) 2 (who.map IdD.cells) ∧ (∀ k, (Value.slice d0 d1 d2).ownBlock = some k ∨ (Value.slice a0 a1 a2).ownBlock = some k ∨ (Value.slice e0 e1 e2).ownBlock = some k → w.heap.size + 3 ≤ k ∧ k < w3.heap.size)) := by
      have hb3 : ∀ k, (Value.slice e0 e1 e2).ownBlock = some k → w.heap.size + 3 ≤ k ∧ k < w3.heap.size := fun k hk => by
        have := ho3.lt k hk
        have h3 : w2.heap.size ≤ k := by simpa using this.1
        have := HC2.out.lt
        have h4 : w.heap.size + 3 ≤ w2.heap.size := by simpa using this
        omega
      have hs := hka.size
      refine ⟨(HK2.out.1.kept hka (fun k hk e => ?_)).kept hkb (fun k hk e => ?_), (HK2.out.2.1.kept hka (fun k hk e => ?_)).kept hkb (fun k hk e => ?_), (seesR_own ho3 (fun c hc => ?_)).kept hkb (fun k hk e => ?_), fun k hk => ?_⟩
      · have := HK2.out.2.2.1 k hk; omega
      · have := HK2.out.2.2.1 k hk; omega
      · have := HK2.out.2.2.2 k hk; omega
      · have := HK2.out.2.2.2 k hk; omega
      · obtain ⟨x, _, rfl⟩ := List.mem_map.1 hc; rfl
      · have := hb3 k hk; omega
      · rcases hk with hk | hk | hk
        · have := HK2.out.2.2.1 k hk; omega
        · have := HK2.out.2.2.2 k hk; omega
        · exact hb3 k hk
    have c1 := h3.cc 9
    have f1 := h3.cf 9
    have c2 := h3.cc 10
    have f2 := h3.cf 10
    have x10 := h3.rc 10
    simp at c1 c2 x10
    have hB0 : w.heap.size + 3 ≤ w3.heap.size := h3.lt
    clear ho3 b3 h3 HW hka hkb HK2 HC2
    go_wp2_with fail
    clear c1 f1 c2 f2 x10
    go_loopw [4] (fun i wr => ∃ (k : Nat) (vo : Value) (es : List (List Value)), k ≤ n ∧ i = .int .i64 k ∧ es.length = k ∧ CS w wr #[.int .i8 kind, .string path, .slice da dl dc, .slice aa al ac, .int .i32 ver, .bool eph, .bool seq, .int .i64 ses, .int .i32 tmo, .slice wa wl wc', .slice oa n occ] #[.int .i8 kind, .string path, .slice d0 d1 d2, .slice a0 a1 a2, .int .i32 ver, .bool eph, .bool seq, .int .i64 ses, .int .i32 tmo, .slice e0 e1 e2, vo] ∧ Kept ((w3.setCell ⟨w.heap.size + 2, 9, none⟩ (.slice e0 e1 e2)).setCell ⟨w.heap.size + 2, 10, none⟩ (.slice none 0 0)) wr (fun j => j = w.heap.size + 2 ∨ w3.heap.size ≤ j) ∧ wr.ownsRow w3.heap.size 33 11 vo k es.flatten ∧
      (∀ j (hj : j < es.length) (hn : j < n), RqIn wr (fun q => w3.heap.size ≤ q ∧ q < wr.heap.size ∧ vo.ownBlock ≠ some q) es[j] (ops ⟨j, hn⟩))) (fun i _ => n - (intOf i).toNat)
    case atStart => exact ⟨0, .slice none 0 0, [], Nat.zero_le _, rfl, rfl, HC3.out, Kept.refl _ _, World.ownsRow_nil _ _ _ _, fun j hj => by simp at hj⟩
    case round =>
      obtain ⟨k, vo, es, hk, rfl, hes, hC, hK, hown, hel⟩ := hrel
      clear HC3
      obtain ⟨v0, v1, v2, rfl⟩ := row_shape hown
      by_cases hlt : k < n
      · obtain ⟨a1', c1', q1, _, _, _, h3⟩ := HO.out
        simp at q1
        obtain ⟨rfl, rfl⟩ := q1
        rcases h3 with h3 | ⟨b, off, rfl, h3⟩
        · have : n = 0 := by simpa using congrArg List.length h3
          omega
        have hBw : w3.heap.size ≤ wr.heap.size := by have := hK.size; simpa [World.setCell] using this
        have hwd : Below w.heap.size w wr.drew := below_drewN hC.bel 1
        obtain ⟨qx0, qx1, dx0, dx1, dx2, ax0, ax1, ax2, qx4, qx5, qx6, qx7, qx8, ex0, ex1, ex2, ox0, ox1, ox2, hcs⟩ := rq_forms (HS.out ⟨k, hlt⟩)
        have hat0 : ∀ W : World, Below w.heap.size w W → ∀ j, j < 11 → W.cell? ⟨b, off + k * 11 + j, none⟩ = some ((oc ⟨k, hlt⟩).getD j (.bool false)) := fun W hW j hj => by
          have := cell_later (h3 k (by simpa using hlt) j hj) hW (Nat.le_refl _)
          simpa using this
        have HX := HI.out ⟨k, hlt⟩ wr.drew hwd
        rw [hcs] at hat0 HX
        have HKK : Hid (∀ W cs', CS w W #[.int .i8 kind, .string path, .slice da dl dc, .slice aa al ac, .int .i32 ver, .bool eph, .bool seq, .int .i64 ses, .int .i32 tmo, .slice wa wl wc', .slice (some ⟨b, off, none⟩) n occ] cs' → W.cell? ⟨w.heap.size, 10, none⟩ = some (.slice (some ⟨b, off, none⟩) n occ) ∧ W.cell? ⟨b, off + k * 11, none⟩ = some (.int .i8 qx0) ∧ W.cell? ⟨b, off + k * 11 + 1, none⟩ = some (.string qx1) ∧ W.cell? ⟨b, off + k * 11 + 2, none⟩ = some (.slice dx0 dx1 dx2) ∧ W.cell? ⟨b, off + k * 11 + 3, none⟩ = some (.slice ax0 ax1 ax2) ∧ W.cell? ⟨b, off + k * 11 + 4, none⟩ = some (.int .i32 qx4) ∧ W.cell? ⟨b, off + k * 11 + 5, none⟩ = some (.bool qx5) ∧ W.cell? ⟨b, off + k * 11 + 6, none⟩ = some (.bool qx6) ∧ W.cell? ⟨b, off + k * 11 + 7, none⟩ = some (.int .i64 qx7) ∧ W.cell? ⟨b, off + k * 11 + 8, none⟩ = some (.int .i32 qx8) ∧ W.cell? ⟨b, off + k * 11 + 9, none⟩ = some (.slice ex0 ex1 ex2) ∧ W.cell? ⟨b, off + k * 11 + 10, none⟩ = some (.slice ox0 ox1 ox2)) := fun W cs' h => ⟨h.rc 10, hat0 W h.bel 0 (by omega), hat0 W h.bel 1 (by omega), hat0 W h.bel 2 (by omega), hat0 W h.bel 3 (by omega), hat0 W h.bel 4 (by omega), hat0 W h.bel 5 (by omega), hat0 W h.bel 6 (by omega), hat0 W h.bel 7 (by omega), hat0 W h.bel 8 (by omega), hat0 W h.bel 9 (by omega), hat0 W h.bel 10 (by omega)⟩
        have hCd : CS w wr.drew #[.int .i8 kind, .string path, .slice da dl dc, .slice aa al ac, .int .i32 ver, .bool eph, .bool seq, .int .i64 ses, .int .i32 tmo, .slice wa wl wc', .slice (some ⟨b, off, none⟩) n occ] #[.int .i8 kind, .string path, .slice d0 d1 d2, .slice a0 a1 a2, .int .i32 ver, .bool eph, .bool seq, .int .i64 ses, .int .i32 tmo, .slice e0 e1 e2, .slice v0 v1 v2] := hC.later (below_drewN (Below.refl _ _) 1)
        obtain ⟨r10, g0, g1, g2, g3, g4, g5, g6, g7, g8, g9, g10⟩ := HKK.out _ _ hCd
        have y10 : wr.drew.cell? ⟨w.heap.size + 2, 10, none⟩ = some (.slice v0 v1 v2) := hCd.cc 10
        have HL : Hid (CS w wr #[.int .i8 kind, .string path, .slice da dl dc, .slice aa al ac, .int .i32 ver, .bool eph, .bool seq, .int .i64 ses, .int .i32 tmo, .slice wa wl wc', .slice (some ⟨b, off, none⟩) n occ] #[.int .i8 kind, .string path, .slice d0 d1 d2, .slice a0 a1 a2, .int .i32 ver, .bool eph, .bool seq, .int .i64 ses, .int .i32 tmo, .slice e0 e1 e2, .slice v0 v1 v2] ∧ Kept ((w3.setCell ⟨w.heap.size + 2, 9, none⟩ (.slice e0 e1 e2)).setCell ⟨w.heap.size + 2, 10, none⟩ (.slice none 0 0)) wr (fun j => j = w.heap.size + 2 ∨ w3.heap.size ≤ j) ∧ wr.ownsRow w3.heap.size 33 11 (.slice v0 v1 v2) k es.flatten ∧ w3.heap.size ≤ wr.heap.size ∧ es.length = k ∧
          (∀ j (hj : j < es.length) (hn : j < n), RqIn wr (fun q => w3.heap.size ≤ q ∧ q < wr.heap.size ∧ (Value.slice v0 v1 v2).ownBlock ≠ some q) es[j] (ops ⟨j, hn⟩))) := ⟨hC, hK, hown, hBw, hes, hel⟩
        have x10 := hC.rc 10
        simp at x10
        clear h3 hat0 hcs hwd hCd hC hK hown hel hBw hes
        obtain ⟨i0, hi, hz0, hz1, hz2⟩ := info_parts Tryz.infoRq
        have HI0 : Hid (Tryz.prog.info? 33 = some i0 ∧ i0.zero = some (.agg rqZ) ∧ i0.size = 11 ∧ i0.bytes = 144) := ⟨hi, hz0, hz1, hz2⟩
        clear hi hz0 hz1 hz2
        go_wp2_with fail
        go_region_law
          (first
          | (go_simp; go_at_call 51; refine HX.mono ?_; rintro e w5 ⟨ds, rfl, hr5, b5⟩; obtain ⟨qy0, qy1, dy0, dy1, dy2, ay0, ay1, ay2, qy4, qy5, qy6, qy7, qy8, ey0, ey1, ey2, oy0, oy1, oy2, rfl⟩ := rq_forms hr5.sees; have b5' : Below wr.heap.size wr w5 := (below_drewN (Below.refl _ _) 1).trans b5; have hC5 := HL.out.1.later b5'; have hCa : CS w (w5.alloc (.cells #[.int .i8 qy0, .string qy1, .slice dy0 dy1 dy2, .slice ay0 ay1 ay2, .int .i32 qy4, .bool qy5, .bool qy6, .int .i64 qy7, .int .i32 qy8, .slice ey0 ey1 ey2, .slice oy0 oy1 oy2] 33)) #[.int .i8 kind, .string path, .slice da dl dc, .slice aa al ac, .int .i32 ver, .bool eph, .bool seq, .int .i64 ses, .int .i32 tmo, .slice wa wl wc', .slice (some ⟨b, off, none⟩) n occ] #[.int .i8 kind, .string path, .slice d0 d1 d2, .slice a0 a1 a2, .int .i32 ver, .bool eph, .bool seq, .int .i64 ses, .int .i32 tmo, .slice e0 e1 e2, .slice v0 v1 v2] := hC5.later (one_alloc _ _); have y11 : w5.cell? ⟨w.heap.size + 2, 10, none⟩ = some (.slice v0 v1 v2) := hC5.cc 10; have y12 : (w5.alloc (.cells #[.int .i8 qy0, .string qy1, .slice dy0 dy1 dy2, .slice ay0 ay1 ay2, .int .i32 qy4, .bool qy5, .bool qy6, .int .i64 qy7, .int .i32 qy8, .slice ey0 ey1 ey2, .slice oy0 oy1 oy2] 33)).cell? ⟨w.heap.size + 2, 10, none⟩ = some (.slice v0 v1 v2) := hCa.cc 10; have H5 : Hid (Below wr.heap.size wr w5 ∧ RqIn w5 (fun q => wr.heap.size ≤ q ∧ q < w5.heap.size) [.int .i8 qy0, .string qy1, .slice dy0 dy1 dy2, .slice ay0 ay1 ay2, .int .i32 qy4, .bool qy5, .bool qy6, .int .i64 qy7, .int .i32 qy8, .slice ey0 ey1 ey2, .slice oy0 oy1 oy2] (ops ⟨k, hlt⟩) ∧ CS w (w5.alloc (.cells #[.int .i8 qy0, .string qy1, .slice dy0 dy1 dy2, .slice ay0 ay1 ay2, .int .i32 qy4, .bool qy5, .bool qy6, .int .i64 qy7, .int .i32 qy8, .slice ey0 ey1 ey2, .slice oy0 oy1 oy2] 33)) #[.int .i8 kind, .string path, .slice da dl dc, .slice aa al ac, .int .i32 ver, .bool eph, .bool seq, .int .i64 ses, .int .i32 tmo, .slice wa wl wc', .slice (some ⟨b, off, none⟩) n occ] #[.int .i8 kind, .string path, .slice d0 d1 d2, .slice a0 a1 a2, .int .i32 ver, .bool eph, .bool seq, .int .i64 ses, .int .i32 tmo, .slice e0 e1 e2, .slice v0 v1 v2] ∧ (w5.alloc (.cells #[.int .i8 qy0, .string qy1, .slice dy0 dy1 dy2, .slice ay0 ay1 ay2, .int .i32 qy4, .bool qy5, .bool qy6, .int .i64 qy7, .int .i32 qy8, .slice ey0 ey1 ey2, .slice oy0 oy1 oy2] 33)).ownsRow w3.heap.size 33 11 (.slice v0 v1 v2) k es.flatten) := ⟨b5', hr5, hCa, ownsRow_kept HL.out.2.2.1 (((Below.kept b5').mono (fun q _ h => h)).trans ((Kept.refl w5 (fun q => wr.heap.size ≤ q)).alloc (.cells #[.int .i8 qy0, .string qy1, .slice dy0 dy1 dy2, .slice ay0 ay1 ay2, .int .i32 qy4, .bool qy5, .bool qy6, .int .i64 qy7, .int .i32 qy8, .slice ey0 ey1 ey2, .slice oy0 oy1 oy2] 33)) (fun _ _ h => h)) (fun q hq e => by have := (HL.out.2.2.1.lt q hq).2; omega)⟩; clear b5' hC5 hCa hr5 b5 HX y10 r10 g0 g1 g2 g3 g4 g5 g6 g7 g8 g9 g10)
          | (refine step_append_at rfl (.tmp 27) (.tmp 34) 31 rfl w3.heap.size 33 i0 _ 11 144 Tryz.underlying31 HI0.out.1 HI0.out.2.1 HI0.out.2.2.1 HI0.out.2.2.2 rfl (by decide) (.slice v0 v1 v2) k es.flatten rfl H5.out.2.2.2 ⟨w5.heap.size, 0, none⟩ 1 1 [.int .i8 qy0, .string qy1, .slice dy0 dy1 dy2, .slice ay0 ay1 ay2, .int .i32 qy4, .bool qy5, .bool qy6, .int .i64 qy7, .int .i32 qy8, .slice ey0 ey1 ey2, .slice oy0 oy1 oy2] rfl rfl (fun j u hj => by rw [addrAdd, Nat.zero_add, cell_of_row _ _ _ _ _ _ (heap_alloc_new _ _), ← hj]; simp) (fun u hu => by simp only [List.mem_cons, List.not_mem_nil, or_false] at hu; rcases hu with rfl | rfl | rfl | rfl | rfl | rfl | rfl | rfl | rfl | rfl | rfl <;> rfl) (by unfold maxLen; omega) (by omega) (by have := HL.out.2.2.2.1; have := H5.out.1.size; simp; omega) ?_; intro v' w6 hown' hgrow hat; obtain ⟨u0, u1, u2, rfl⟩ := row_shape hown'; have HR : Hid _ := copy_round hB0 HL.out.2.2.2.1 hlt HL.out.2.2.2.2.1 HL.out.1 HL.out.2.1 (fun q hq => HL.out.2.2.1.lt q hq) HL.out.2.2.2.2.2 H5.out.1 H5.out.2.1 hgrow hat hown'; have hC6 : CS w w6 #[.int .i8 kind, .string path, .slice da dl dc, .slice aa al ac, .int .i32 ver, .bool eph, .bool seq, .int .i64 ses, .int .i32 tmo, .slice wa wl wc', .slice (some ⟨b, off, none⟩) n occ] #[.int .i8 kind, .string path, .slice d0 d1 d2, .slice a0 a1 a2, .int .i32 ver, .bool eph, .bool seq, .int .i64 ses, .int .i32 tmo, .slice e0 e1 e2, .slice v0 v1 v2] := H5.out.2.2.1.kept ((Kept.refl _ (fun q => (Value.slice v0 v1 v2).ownBlock = some q)).grown hgrow (fun q _ h => h)) (fun q hq => by have := (HL.out.2.2.1.lt q hq).1; omega); have z10 : w6.cell? ⟨w.heap.size + 2, 10, none⟩ = some (.slice v0 v1 v2) := hC6.cc 10; have zf := hC6.cf 10; clear hown' hgrow hat hC6))
        all_goals (clear x10 z10 zf; go_wp2_with fail)
        all_goals go_roundw
        all_goals first
          | exact ⟨k + 1, .slice u0 u1 u2, es ++ [[.int .i8 qy0, .string qy1, .slice dy0 dy1 dy2, .slice ay0 ay1 ay2, .int .i32 qy4, .bool qy5, .bool qy6, .int .i64 qy7, .int .i32 qy8, .slice ey0 ey1 ey2, .slice oy0 oy1 oy2]], by omega, by go_num, by simp [HL.out.2.2.2.2.1], HR.out.1, HR.out.2.1, HR.out.2.2.1, HR.out.2.2.2⟩
          | (simp [intOf]; omega)
      · obtain rfl : k = n := by omega
        have HL : Hid _ := And.intro hC (And.intro hK (And.intro hown (And.intro hes hel)))
        have c0 : wr.cell? ⟨w.heap.size + 2, 0, none⟩ = some (.int .i8 kind) := hC.cc 0
        have c1 : wr.cell? ⟨w.heap.size + 2, 1, none⟩ = some (.string path) := hC.cc 1
        have c2 : wr.cell? ⟨w.heap.size + 2, 2, none⟩ = some (.slice d0 d1 d2) := hC.cc 2
        have c3 : wr.cell? ⟨w.heap.size + 2, 3, none⟩ = some (.slice a0 a1 a2) := hC.cc 3
        have c4 : wr.cell? ⟨w.heap.size + 2, 4, none⟩ = some (.int .i32 ver) := hC.cc 4
        have c5 : wr.cell? ⟨w.heap.size + 2, 5, none⟩ = some (.bool eph) := hC.cc 5
        have c6 : wr.cell? ⟨w.heap.size + 2, 6, none⟩ = some (.bool seq) := hC.cc 6
        have c7 : wr.cell? ⟨w.heap.size + 2, 7, none⟩ = some (.int .i64 ses) := hC.cc 7
        have c8 : wr.cell? ⟨w.heap.size + 2, 8, none⟩ = some (.int .i32 tmo) := hC.cc 8
        have c9 : wr.cell? ⟨w.heap.size + 2, 9, none⟩ = some (.slice e0 e1 e2) := hC.cc 9
        have c10 : wr.cell? ⟨w.heap.size + 2, 10, none⟩ = some (.slice v0 v1 v2) := hC.cc 10
        have o0 : wr.cell? ⟨w.heap.size + 1, 0, none⟩ = some (.int .i8 0) := by rw [cell_of_row _ _ _ _ _ _ hC.o]; rfl
        have o1 : wr.cell? ⟨w.heap.size + 1, 1, none⟩ = some (.string ⟨#[]⟩) := by rw [cell_of_row _ _ _ _ _ _ hC.o]; rfl
        have o2 : wr.cell? ⟨w.heap.size + 1, 2, none⟩ = some (.slice none 0 0) := by rw [cell_of_row _ _ _ _ _ _ hC.o]; rfl
        have o3 : wr.cell? ⟨w.heap.size + 1, 3, none⟩ = some (.slice none 0 0) := by rw [cell_of_row _ _ _ _ _ _ hC.o]; rfl
        have o4 : wr.cell? ⟨w.heap.size + 1, 4, none⟩ = some (.int .i32 0) := by rw [cell_of_row _ _ _ _ _ _ hC.o]; rfl
        have o5 : wr.cell? ⟨w.heap.size + 1, 5, none⟩ = some (.bool false) := by rw [cell_of_row _ _ _ _ _ _ hC.o]; rfl
        have o6 : wr.cell? ⟨w.heap.size + 1, 6, none⟩ = some (.bool false) := by rw [cell_of_row _ _ _ _ _ _ hC.o]; rfl
        have o7 : wr.cell? ⟨w.heap.size + 1, 7, none⟩ = some (.int .i64 0) := by rw [cell_of_row _ _ _ _ _ _ hC.o]; rfl
        have o8 : wr.cell? ⟨w.heap.size + 1, 8, none⟩ = some (.int .i32 0) := by rw [cell_of_row _ _ _ _ _ _ hC.o]; rfl
        have o9 : wr.cell? ⟨w.heap.size + 1, 9, none⟩ = some (.slice none 0 0) := by rw [cell_of_row _ _ _ _ _ _ hC.o]; rfl
        have o10 : wr.cell? ⟨w.heap.size + 1, 10, none⟩ = some (.slice none 0 0) := by rw [cell_of_row _ _ _ _ _ _ hC.o]; rfl
        have p0 : wr.frozen? ⟨w.heap.size + 1, 0, none⟩ = false := frozen_of_row _ _ _ _ _ hC.o
        have p1 : wr.frozen? ⟨w.heap.size + 1, 1, none⟩ = false := frozen_of_row _ _ _ _ _ hC.o
        have p2 : wr.frozen? ⟨w.heap.size + 1, 2, none⟩ = false := frozen_of_row _ _ _ _ _ hC.o
        have p3 : wr.frozen? ⟨w.heap.size + 1, 3, none⟩ = false := frozen_of_row _ _ _ _ _ hC.o
        have p4 : wr.frozen? ⟨w.heap.size + 1, 4, none⟩ = false := frozen_of_row _ _ _ _ _ hC.o
        have p5 : wr.frozen? ⟨w.heap.size + 1, 5, none⟩ = false := frozen_of_row _ _ _ _ _ hC.o
        have p6 : wr.frozen? ⟨w.heap.size + 1, 6, none⟩ = false := frozen_of_row _ _ _ _ _ hC.o
        have p7 : wr.frozen? ⟨w.heap.size + 1, 7, none⟩ = false := frozen_of_row _ _ _ _ _ hC.o
        have p8 : wr.frozen? ⟨w.heap.size + 1, 8, none⟩ = false := frozen_of_row _ _ _ _ _ hC.o
        have p9 : wr.frozen? ⟨w.heap.size + 1, 9, none⟩ = false := frozen_of_row _ _ _ _ _ hC.o
        have p10 : wr.frozen? ⟨w.heap.size + 1, 10, none⟩ = false := frozen_of_row _ _ _ _ _ hC.o
        have x10 := hC.rc 10
        simp at x10
        clear hC hK hown hes hel
        go_wp2_with fail
        clear c0 c1 c2 c3 c4 c5 c6 c7 c8 c9 c10 o0 o1 o2 o3 o4 o5 o6 o7 o8 o9 o10 p0 p1 p2 p3 p4 p5 p6 p7 p8 p9 p10 x10
        obtain ⟨hC, hK, hown, hes, hel⟩ := HL.out
        obtain ⟨hrow, hk'⟩ := stored11 (.int .i8 kind) (.string path) (.slice d0 d1 d2) (.slice a0 a1 a2) (.int .i32 ver) (.bool eph) (.bool seq) (.int .i64 ses) (.int .i32 tmo) (.slice e0 e1 e2) (.slice v0 v1 v2) hC.o
        have hs1 := hK.size
        have hs2 := hk'.size
        have hs3 : w3.heap.size ≤ wr.heap.size := by simpa [World.setCell] using hs1
        have hz : ∀ c ∈ es, c.length = 11 := fun c hc => by
          obtain ⟨j, hj, rfl⟩ := List.getElem_of_mem hc
          exact (hel j hj (by omega)).sees.len
        have hof : List.ofFn (fun i : Fin k => es[i.1]'(by omega)) = es := by
          apply List.ext_getElem
          · simp [hes]
          · intro j h1 h2; simp
        have hso : SeesR wr (.slice v0 v1 v2) 11 (List.ofFn (fun i : Fin k => es[i.1]'(by omega))) := by
          rw [hof]
          refine seesR_own (base := w3.heap.size) (t := 33) ?_ hz
          rw [hes]; exact hown
        have hkd : ∀ q, (Value.slice d0 d1 d2).ownBlock = some q ∨ (Value.slice a0 a1 a2).ownBlock = some q ∨ (Value.slice e0 e1 e2).ownBlock = some q → ¬ (q = w.heap.size + 2 ∨ w3.heap.size ≤ q) ∧ ¬ q = w.heap.size + 1 ∧ w.heap.size ≤ q ∧ q < w3.heap.size := fun q hq => by
          have := HK3.out.2.2.2 q hq
          omega
        have hvo : ∀ q, (Value.slice v0 v1 v2).ownBlock = some q → w3.heap.size ≤ q ∧ q < wr.heap.size := fun q hq => hown.lt q hq
        have hR := RqIn.mk (w := _) (F := fun q => w.heap.size ≤ q ∧ q < _) ⟨kind, path, data, acl, ver, eph, seq, ses, tmo, who⟩ k ops (.slice d0 d1 d2) (.slice a0 a1 a2) (.slice e0 e1 e2) (.slice v0 v1 v2) (fun i : Fin k => es[i.1]'(by omega))
          ((HK3.out.1.kept hK (fun q hq => (hkd q (.inl hq)).1)).kept hk' (fun q hq => (hkd q (.inl hq)).2.1))
          ((HK3.out.2.1.kept hK (fun q hq => (hkd q (.inr (.inl hq))).1)).kept hk' (fun q hq => (hkd q (.inr (.inl hq))).2.1))
          ((HK3.out.2.2.1.kept hK (fun q hq => (hkd q (.inr (.inr hq))).1)).kept hk' (fun q hq => (hkd q (.inr (.inr hq))).2.1))
          (hso.kept hk' (fun q hq e => by have := hvo q hq; omega))
          (fun q hq => by have := hkd q (.inl hq); exact ⟨this.2.2.1, Nat.lt_of_lt_of_le this.2.2.2 (Nat.le_trans hs3 hs2)⟩)
          (fun q hq => by have := hkd q (.inr (.inl hq)); exact ⟨this.2.2.1, Nat.lt_of_lt_of_le this.2.2.2 (Nat.le_trans hs3 hs2)⟩)
          (fun q hq => by have := hkd q (.inr (.inr hq)); exact ⟨this.2.2.1, Nat.lt_of_lt_of_le this.2.2.2 (Nat.le_trans hs3 hs2)⟩)
          (fun q hq => by have := hvo q hq; exact ⟨by omega, Nat.lt_of_lt_of_le this.2 hs2⟩)
          (fun i => RqIn.kept hk' (fun q hq => ⟨fun e => by omega, by omega, Nat.lt_of_lt_of_le hq.2.1 hs2⟩) (hel i.1 (by omega) i.2))
        have hld := run_loadVar_row (P := Tryz.prog) _ _ _ 33 _ _ _ hrow Tryz.underlying33 rfl rq_size
        refine bodyPost_ret (v := .agg (rqCells ⟨kind, path, data, acl, ver, eph, seq, ses, tmo, who⟩ (.slice d0 d1 d2) (.slice a0 a1 a2) (.slice e0 e1 e2) (.slice v0 v1 v2)).toArray) ?_ rfl ⟨_, rfl, hR, hC.bel.trans (hk'.below hC.bel.size (fun q e => by omega))⟩
        rw [resCell1 Tryz.results51]
        show ((asAddr (.pointer (some ⟨w.heap.size + 1, 0, none⟩))).run Tryz.prog _).andThen _ = _
        simp only [asAddr, Sem.run_pure, Result.andThen_ok, hld]
        rfl
end Go.Proofs.YtoeialngbbfoeaaGreatDoor
