/- SpareRequests and SpareRequest of lagoonref00: the marks behind a wide request's lists stand. -/
import Derived.Test.YtoeialngbbfoeaaGreatDoorWdDJ
namespace Go.Proofs.YtoeialngbbfoeaaGreatDoor
open Go.RowKit Go.Shelf
set_option maxRecDepth 8000

theorem WidR.below {w w' : World} {g : Nat} {cs : List (List Value)} (h : WidR w g cs) (hb : Below w.heap.size w w') : WidR w' g cs := by
  have hg : g < w.heap.size := by obtain ⟨_, ho, _⟩ := h; exact (ho.lt g rfl).2
  exact h.kept (Below.kept hb) (fun e => by omega)

set_option maxHeartbeats 4000000 in
theorem spareRequests_of (n : Nat) (ops : Fin n → Rq) (oc : Fin n → List Value) (g : Nat) (w : World) (ho : WidR w g (List.ofFn oc)) (hs : ∀ i, SeesRq w (oc i) (ops i)) (hn : n ≤ 20000)
    (hI : ∀ (i : Fin n) (W : World), Below w.heap.size w W → Calls Tryz.prog 10 #[.agg (oc i).toArray] W fun e w' => e = .returned (.bool true) ∧ Below W.heap.size W w') :
    Calls Tryz.prog 25 #[.slice (some ⟨g, 0, none⟩) n (n + 64)] w fun e w' => e = .returned (.bool true) ∧ Below w.heap.size w w' := by
  have HI : Hid _ := hI
  have HS : Hid (WidR w g (List.ofFn oc) ∧ ∀ i, SeesRq w (oc i) (ops i)) := ⟨ho, hs⟩
  clear ho hs hI
  go_enter Tryz.func25, Tryz.ntmps25
  go_wp2_with fail
  go_loop [4] (fun i => ∃ k : Nat, n ≤ k ∧ k ≤ n + 64 ∧ i = .int .i64 k) (fun i => n + 64 - (intOf i).toNat)
  case atStart => exact ⟨n, Nat.le_refl _, by omega, rfl⟩
  case round =>
    obtain ⟨k, hk0, hk, rfl⟩ := hrel
    by_cases hlt : k < n + 64
    · have hc := HS.out.1.mark k (by rw [List.length_ofFn]; exact hk0) (by rw [List.length_ofFn]; exact hlt)
      go_wp2_with fail
      go_round
      case rel => exact ⟨k + 1, by omega, by omega, by go_num⟩
      case measure => simp [intOf]; omega
    · obtain rfl : k = n + 64 := by omega
      go_wp2_with fail
      go_loopw [5] (fun i wr => ∃ k : Nat, k ≤ n ∧ i = .int .i64 k ∧ Hid (Below w.heap.size w wr)) (fun i _ => n - (intOf i).toNat)
      case atStart => exact ⟨0, Nat.zero_le _, rfl, Below.refl _ _⟩
      case round =>
        obtain ⟨k, hk, rfl, HB⟩ := hrel
        by_cases hlx : k < n
        · have hat : ∀ j, j < 11 → wr.cell? ⟨g, k * 11 + j, none⟩ = some ((oc ⟨k, hlx⟩).getD j (.bool false)) := fun j hj => by
            have := (HS.out.1.below HB.out).cell k (by rw [List.length_ofFn]; exact hlx) j hj
            simpa using this
          obtain ⟨qx0, qx1, dx0, dx1, dx2, ax0, ax1, ax2, qx4, qx5, qx6, qx7, qx8, ex0, ex1, ex2, ox0, ox1, ox2, hcs⟩ := rq_forms (HS.out.2 ⟨k, hlx⟩)
          have HX := HI.out ⟨k, hlx⟩ wr HB.out
          rw [hcs] at hat HX
          have g0 : wr.cell? ⟨g, k * 11, none⟩ = some (.int .i8 qx0) := hat 0 (by omega)
          have g1 : wr.cell? ⟨g, k * 11 + 1, none⟩ = some (.string qx1) := hat 1 (by omega)
          have g2 : wr.cell? ⟨g, k * 11 + 2, none⟩ = some (.slice dx0 dx1 dx2) := hat 2 (by omega)
          have g3 : wr.cell? ⟨g, k * 11 + 3, none⟩ = some (.slice ax0 ax1 ax2) := hat 3 (by omega)
          have g4 : wr.cell? ⟨g, k * 11 + 4, none⟩ = some (.int .i32 qx4) := hat 4 (by omega)
          have g5 : wr.cell? ⟨g, k * 11 + 5, none⟩ = some (.bool qx5) := hat 5 (by omega)
          have g6 : wr.cell? ⟨g, k * 11 + 6, none⟩ = some (.bool qx6) := hat 6 (by omega)
          have g7 : wr.cell? ⟨g, k * 11 + 7, none⟩ = some (.int .i64 qx7) := hat 7 (by omega)
          have g8 : wr.cell? ⟨g, k * 11 + 8, none⟩ = some (.int .i32 qx8) := hat 8 (by omega)
          have g9 : wr.cell? ⟨g, k * 11 + 9, none⟩ = some (.slice ex0 ex1 ex2) := hat 9 (by omega)
          have g10 : wr.cell? ⟨g, k * 11 + 10, none⟩ = some (.slice ox0 ox1 ox2) := hat 10 (by omega)
          clear hat hcs
          go_wp2_with fail
          refine HX.mono ?_
          rintro e w5 ⟨rfl, b5⟩
          have HR : Hid (Below w.heap.size w w5) := HB.out.trans (b5.mono HB.out.size)
          clear HX b5 g0 g1 g2 g3 g4 g5 g6 g7 g8 g9 g10
          go_wp2_with fail
          go_roundw
          case rel => exact ⟨k + 1, by omega, by go_num, HR⟩
          case measure => simp [intOf]; omega
        · go_wp2_with fail
          go_ret
          exact ⟨rfl, HB.out⟩

set_option maxHeartbeats 4000000 in
theorem spareRequest_any (r : Rq) : ∀ (F : Nat → Prop) (cs : List Value) (w : World), WidQ w F cs r → (∀ k, F k → k < w.heap.size) → r.parts ≤ 20000 → Tab w → 1 < w.heap.size →
    Calls Tryz.prog 10 #[.agg cs.toArray] w fun e w' => e = .returned (.bool true) ∧ Below w.heap.size w w' := by
  induction r with
  | mk f n ops ih =>
    intro F cs w hcs hF hp ht hg0
    obtain ⟨gd, ga, gw, go, oc, rfl, hd, ha, hw, ho, fd, fa, fw, fo, hs⟩ := hcs.inv
    rw [Rq.parts_eq] at hp
    have hpn := partsTo_le ops n (Nat.le_refl _)
    have hfp : f.parts = 1 + f.data.length + f.acl.length + f.who.length := rfl
    have hpi : ∀ i : Fin n, (ops i).parts ≤ 20000 := fun i => by have := part_le ops i; omega
    obtain ⟨kind, path, data, acl, ver, eph, seq, ses, tmo, who⟩ := f
    simp only at hd ha hw hfp
    have hnot : ∀ k, F k → ¬ w.heap.size ≤ k := fun k hk => by have := hF k hk; omega
    have HD : Hid (∀ W : World, Below w.heap.size w W → Calls Tryz.prog 22 #[.slice (some ⟨gd, 0, none⟩) data.length (data.length + 64)] W fun e w' => e = .returned (.bool true) ∧ w' = W) := fun W hW =>
      spareBytes_any gd data (wide data) W (hd.kept (Below.kept hW) (hnot _ fd)) (wide_len data) (fun j h1 h2 => by rw [wide_nth data j h2, if_neg (by omega)]) (by omega)
    have HA : Hid (∀ W : World, Below w.heap.size w W → Calls Tryz.prog 23 #[.slice (some ⟨ga, 0, none⟩) acl.length (acl.length + 64)] W fun e w' => e = .returned (.bool true) ∧ Below W.heap.size W w') := fun W hW =>
      spareAcl_rq ga acl W (ha.kept (Below.kept hW) (hnot _ fa)) (by omega) (ht.below hW hg0) (Nat.lt_of_lt_of_le hg0 hW.size)
    have HW : Hid (∀ W : World, Below w.heap.size w W → Calls Tryz.prog 24 #[.slice (some ⟨gw, 0, none⟩) who.length (who.length + 64)] W fun e w' => e = .returned (.bool true) ∧ Below W.heap.size W w') := fun W hW =>
      spareIds_rq gw who W (hw.kept (Below.kept hW) (hnot _ fw)) (by omega) (ht.below hW hg0) (Nat.lt_of_lt_of_le hg0 hW.size)
    have HO : Hid (∀ W : World, Below w.heap.size w W → Calls Tryz.prog 25 #[.slice (some ⟨go, 0, none⟩) n (n + 64)] W fun e w' => e = .returned (.bool true) ∧ Below W.heap.size W w') := fun W hW =>
      spareRequests_of n ops oc go W (ho.kept (Below.kept hW) (hnot _ fo)) (fun i => ((hs i).sees (hpi i)).later hW (Nat.le_refl _)) (by omega)
        (fun i V hV => ih i F (oc i) V (WidQ.kept (Below.kept (hW.trans (hV.mono hW.size))) (fun k hk => ⟨hnot k hk, hk⟩) (hs i)) (fun k hk => Nat.lt_of_lt_of_le (hF k hk) (hW.trans (hV.mono hW.size)).size) (hpi i) (ht.below (hW.trans (hV.mono hW.size)) hg0) (Nat.lt_of_lt_of_le hg0 (hW.trans (hV.mono hW.size)).size))
    clear hd ha hw hcs ho ih hs hp hpn hfp hpi ht hg0 fd fa fw fo hF hnot
    simp only [rqCells]
    obtain ⟨V, eV⟩ : ∃ V, V = w.alloc (.cells #[.int .i8 kind, .string path, .slice (some ⟨gd, 0, none⟩) data.length (data.length + 64), .slice (some ⟨ga, 0, none⟩) acl.length (acl.length + 64), .int .i32 ver, .bool eph, .bool seq, .int .i64 ses, .int .i32 tmo, .slice (some ⟨gw, 0, none⟩) who.length (who.length + 64), .slice (some ⟨go, 0, none⟩) n (n + 64)] 33) := ⟨_, rfl⟩
    have HV : Hid (Below w.heap.size w V ∧ w.heap.size < V.heap.size ∧ V.cell? ⟨w.heap.size, 2, none⟩ = some (.slice (some ⟨gd, 0, none⟩) data.length (data.length + 64)) ∧ V.cell? ⟨w.heap.size, 3, none⟩ = some (.slice (some ⟨ga, 0, none⟩) acl.length (acl.length + 64)) ∧ V.cell? ⟨w.heap.size, 9, none⟩ = some (.slice (some ⟨gw, 0, none⟩) who.length (who.length + 64)) ∧ V.cell? ⟨w.heap.size, 10, none⟩ = some (.slice (some ⟨go, 0, none⟩) n (n + 64))) := by
      subst eV
      refine ⟨one_alloc w _, by simp, ?_, ?_, ?_, ?_⟩ <;> (rw [cell_of_row _ _ _ _ _ _ (heap_alloc_new _ _)]; rfl)
    have HE : Hid _ := eV
    clear eV
    go_enter Tryz.func10, Tryz.ntmps10
    go_wp2_with fail
    rw [← HE.out]
    have c3 := HV.out.2.2.2.1
    refine (HD.out _ HV.out.1).mono ?_
    rintro e w1 ⟨rfl, rfl⟩
    clear HD HE
    go_wp2_with fail
    clear c3
    refine (HA.out _ HV.out.1).mono ?_
    rintro e w2 ⟨rfl, b2⟩
    have HB2 : Hid (Below w.heap.size w w2 ∧ w2.cell? ⟨w.heap.size, 10, none⟩ = some (.slice (some ⟨go, 0, none⟩) n (n + 64)) ∧ w.heap.size < w2.heap.size) := ⟨HV.out.1.trans (b2.mono HV.out.1.size), cell_later HV.out.2.2.2.2.2 b2 (Nat.le_refl _), Nat.lt_of_lt_of_le HV.out.2.1 b2.size⟩
    have c9 := cell_later HV.out.2.2.2.2.1 b2 (Nat.le_refl _)
    clear HA b2 HV
    go_wp2_with fail
    clear c9
    refine (HW.out _ HB2.out.1).mono ?_
    rintro e w3 ⟨rfl, b3⟩
    have HB3 : Hid (Below w.heap.size w w3) := HB2.out.1.trans (b3.mono HB2.out.1.size)
    have c10 := cell_later HB2.out.2.1 b3 (Nat.le_refl _)
    clear HW b3 HB2
    go_wp2_with fail
    clear c10
    refine (HO.out _ HB3.out).mono ?_
    rintro e w4 ⟨rfl, b4⟩
    have HB4 : Hid (Below w.heap.size w w4) := HB3.out.trans (b4.mono HB3.out.size)
    clear HO b4 HB3
    go_wp2_with fail
    go_ret
    exact ⟨rfl, HB4.out⟩
end Go.Proofs.YtoeialngbbfoeaaGreatDoor
