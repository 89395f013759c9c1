/- WideRequest of lagoonref00: a request of its own, each list with marks behind it. -/
import Derived.Test.YtoeialngbbfoeaaGreatDoorWdEJ
namespace Go.Proofs.YtoeialngbbfoeaaGreatDoor
open Go.RowKit Go.Shelf
set_option maxRecDepth 8000

/-- What stands while a request is made wide: the request at N, the result's variable behind it. -/
structure WS (w W : World) (cs : Array Value) : Prop where
  r : W.heap[w.heap.size]? = some (.cells cs 33 (0, 0))
  o : W.heap[w.heap.size + 1]? = some (.cells rqZ 33 (0, 0))
  bel : Below w.heap.size w W

section
variable {w W W' : World} {cs : Array Value}
theorem WS.lt (h : WS w W cs) : w.heap.size + 2 ≤ W.heap.size := lt_of_block h.o
theorem WS.later (h : WS w W cs) (hb : Below W.heap.size W W') : WS w W' cs := by
  have := h.lt
  exact ⟨(Below.kept hb).heap h.r (fun e => by omega), (Below.kept hb).heap h.o (fun e => by omega), h.bel.trans (hb.mono h.bel.size)⟩
theorem WS.set (h : WS w W cs) (j : Nat) (u : Value) : WS w (W.setCell ⟨w.heap.size, j, none⟩ u) (cs.setIfInBounds j u) := by
  have hk : Kept W (W.setCell ⟨w.heap.size, j, none⟩ u) (fun k => k = w.heap.size) := (Kept.refl W (fun k => k = w.heap.size)).setCell _ _ (fun _ => rfl)
  exact ⟨heap_setR _ h.r, hk.heap h.o (by omega), h.bel.trans (hk.below h.bel.size (fun k e => by omega))⟩
theorem WS.rc (h : WS w W cs) (j : Nat) : W.cell? ⟨w.heap.size, j, none⟩ = cs[j]? := cell_of_row _ _ _ _ _ _ h.r
theorem WS.rf (h : WS w W cs) (j : Nat) : W.frozen? ⟨w.heap.size, j, none⟩ = false := frozen_of_row _ _ _ _ _ h.r
theorem WS.kp (hb : Below W.heap.size W W') (j : Nat) (u : Value) : Kept W (W'.setCell ⟨w.heap.size, j, none⟩ u) (fun k => k = w.heap.size ∨ W.heap.size ≤ k) :=
  ((Below.kept hb).mono (fun _ _ h => Or.inr h)).setCell _ _ (fun _ => .inl rfl)
end

set_option maxHeartbeats 4000000 in
theorem wideRequest_any (r : Rq) : ∀ (cs : List Value) (w : World), SeesRq w cs r → r.parts ≤ 20000 → Tab w → 1 < w.heap.size →
    Calls Tryz.prog 18 #[.agg cs.toArray] w fun e w' => ∃ ds, e = .returned (.agg ds.toArray) ∧ WidQ w' (fun k => w.heap.size ≤ k ∧ k < w'.heap.size) ds r ∧ Below w.heap.size w w' := by
  induction r with
  | mk f n ops ih =>
    intro cs w hcs hp ht hg0
    obtain ⟨dv, av, wv, ov, oc, rfl, hd, ha, hw, ho, hs⟩ := rq_inv hcs
    rw [Rq.parts_eq] at hp
    have hpn := partsTo_le ops n (Nat.le_refl _)
    have hfp : f.parts = 1 + f.data.length + f.acl.length + f.who.length := rfl
    have hpi : ∀ i : Fin n, (ops i).parts ≤ 20000 := fun i => by have := part_le ops i; omega
    obtain ⟨kind, path, data, acl, ver, eph, seq, ses, tmo, who⟩ := f
    simp only at hd ha hw hfp
    have HD : Hid (∀ W : World, Below w.heap.size w W → Calls Tryz.prog 66 #[dv] W fun e w' => e = .returned (.slice (some ⟨W.heap.size, 0, none⟩) data.length (data.length + 64)) ∧ WidB w' W.heap.size data ∧ Below W.heap.size W w') := fun W hW => wideBytes_any dv data W (hd.below hW (Nat.le_refl _)) (by omega)
    have HA : Hid (∀ W : World, Below w.heap.size w W → Calls Tryz.prog 67 #[av] W fun e w' => e = .returned (.slice (some ⟨W.heap.size, 0, none⟩) acl.length (acl.length + 64)) ∧ WidE w' W.heap.size acl ∧ Below W.heap.size W w') := fun W hW => wideAcl_rq av acl W (ha.below hW (Nat.le_refl _)) (by omega) (ht.below hW hg0) (Nat.lt_of_lt_of_le hg0 hW.size)
    have HW : Hid (∀ W : World, Below w.heap.size w W → Calls Tryz.prog 68 #[wv] W fun e w' => e = .returned (.slice (some ⟨W.heap.size, 0, none⟩) who.length (who.length + 64)) ∧ WidI w' W.heap.size who ∧ Below W.heap.size W w') := fun W hW => wideIds_rq wv who W (hw.below hW (Nat.le_refl _)) (by omega) (ht.below hW hg0) (Nat.lt_of_lt_of_le hg0 hW.size)
    have HO : Hid (∀ W : World, Below w.heap.size w W → Calls Tryz.prog 69 #[ov] W fun e w' => ∃ oc' : Fin n → List Value, e = .returned (.slice (some ⟨W.heap.size, 0, none⟩) n (n + 64)) ∧ WidR w' W.heap.size (List.ofFn oc') ∧ (∀ i, WidQ w' (fun k => W.heap.size < k ∧ k < w'.heap.size) (oc' i) (ops i)) ∧ Below W.heap.size W w') := fun W hW =>
      wideRequests_of n ops oc ov W (ho.below hW (Nat.le_refl _)) (fun i => (hs i).later hW (Nat.le_refl _)) (by omega) hpi
        (fun i V hV => ih i (oc i) V ((hs i).later (hW.trans (hV.mono hW.size)) (Nat.le_refl _)) (hpi i) (ht.below (hW.trans (hV.mono hW.size)) hg0) (Nat.lt_of_lt_of_le hg0 (hW.trans (hV.mono hW.size)).size))
    obtain ⟨da, dl, dc, rfl⟩ := sees_form hd
    obtain ⟨aa, al, ac, rfl⟩ := seesR_form ha
    obtain ⟨wa, wl, wc', rfl⟩ := seesR_form hw
    obtain ⟨oa, occ, e3⟩ := seesR_shape ho
    rw [List.length_ofFn] at e3
    subst e3
    clear hd ha hw hcs ho ih hs hp hpn hfp hpi ht hg0
    simp only [rqCells]
    obtain ⟨V, eV⟩ : ∃ V, V = (w.alloc (.cells #[.int .i8 kind, .string path, .slice da dl dc, .slice aa al ac, .int .i32 ver, .bool eph, .bool seq, .int .i64 ses, .int .i32 tmo, .slice wa wl wc', .slice oa n occ] 33)).alloc (.cells rqZ 33) := ⟨_, rfl⟩
    have HV : Hid (WS w V #[.int .i8 kind, .string path, .slice da dl dc, .slice aa al ac, .int .i32 ver, .bool eph, .bool seq, .int .i64 ses, .int .i32 tmo, .slice wa wl wc', .slice oa n occ] ∧ V.heap.size = w.heap.size + 2) := by
      subst eV
      refine ⟨⟨?_, ?_, two_alloc _ _ _⟩, by simp⟩
      · rw [Below.heap_alloc _ _ _ (by simp)]; exact heap_alloc_new _ _
      · have := heap_alloc_new (w.alloc (.cells #[.int .i8 kind, .string path, .slice da dl dc, .slice aa al ac, .int .i32 ver, .bool eph, .bool seq, .int .i64 ses, .int .i32 tmo, .slice wa wl wc', .slice oa n occ] 33)) (.cells rqZ 33 (0, 0))
        simpa using this
    have HE : Hid _ := eV
    clear eV
    go_enter Tryz.func18, Tryz.ntmps18
    go_wp2_with fail
    rw [← HE.out]
    refine (HD.out _ HV.out.1.bel).mono ?_
    rintro e w1 ⟨rfl, hd1, b1⟩
    obtain ⟨gd, hgd⟩ : ∃ gd, gd = V.heap.size := ⟨_, rfl⟩
    rw [← hgd] at hd1
    rw [← hgd]
    have h1 := HV.out.1.later b1
    have HC1 : Hid (WS w (w1.setCell ⟨w.heap.size, 2, none⟩ (.slice (some ⟨gd, 0, none⟩) data.length (data.length + 64))) #[.int .i8 kind, .string path, .slice (some ⟨gd, 0, none⟩) data.length (data.length + 64), .slice aa al ac, .int .i32 ver, .bool eph, .bool seq, .int .i64 ses, .int .i32 tmo, .slice wa wl wc', .slice oa n occ] ∧ WidB (w1.setCell ⟨w.heap.size, 2, none⟩ (.slice (some ⟨gd, 0, none⟩) data.length (data.length + 64))) gd data ∧ w.heap.size + 2 ≤ gd ∧ gd < (w1.setCell ⟨w.heap.size, 2, none⟩ (.slice (some ⟨gd, 0, none⟩) data.length (data.length + 64))).heap.size) := by
      have hlt : gd < w1.heap.size := (hd1.lt gd rfl).2
      refine ⟨h1.set 2 _, hd1.kept ((Kept.refl w1 (fun k => k = w.heap.size)).setCell ⟨w.heap.size, 2, none⟩ _ (fun _ => rfl)) (by have := HV.out.2; omega), by have := HV.out.2; omega, by simpa [World.setCell] using hlt⟩
    have c1 := h1.rc 2
    have f1 := h1.rf 2
    have x3 := h1.rc 3
    simp at c1 x3
    clear hd1 b1 h1 HD HE hgd HV
    go_wp2_with fail
    clear c1 f1 x3
    refine (HA.out _ HC1.out.1.bel).mono ?_
    rintro e w2 ⟨rfl, ha2, b2⟩
    generalize hU : w1.setCell ⟨w.heap.size, 2, none⟩ (.slice (some ⟨gd, 0, none⟩) data.length (data.length + 64)) = U1 at *
    clear hU
    obtain ⟨ga, hga⟩ : ∃ ga, ga = U1.heap.size := ⟨_, rfl⟩
    rw [← hga] at ha2
    rw [← hga]
    have h2 := HC1.out.1.later b2
    have HC2 : Hid (WS w (w2.setCell ⟨w.heap.size, 3, none⟩ (.slice (some ⟨ga, 0, none⟩) acl.length (acl.length + 64))) #[.int .i8 kind, .string path, .slice (some ⟨gd, 0, none⟩) data.length (data.length + 64), .slice (some ⟨ga, 0, none⟩) acl.length (acl.length + 64), .int .i32 ver, .bool eph, .bool seq, .int .i64 ses, .int .i32 tmo, .slice wa wl wc', .slice oa n occ] ∧ WidB (w2.setCell ⟨w.heap.size, 3, none⟩ (.slice (some ⟨ga, 0, none⟩) acl.length (acl.length + 64))) gd data ∧ WidE (w2.setCell ⟨w.heap.size, 3, none⟩ (.slice (some ⟨ga, 0, none⟩) acl.length (acl.length + 64))) ga acl ∧ w.heap.size + 2 ≤ gd ∧ w.heap.size + 2 ≤ ga ∧ gd < (w2.setCell ⟨w.heap.size, 3, none⟩ (.slice (some ⟨ga, 0, none⟩) acl.length (acl.length + 64))).heap.size ∧ ga < (w2.setCell ⟨w.heap.size, 3, none⟩ (.slice (some ⟨ga, 0, none⟩) acl.length (acl.length + 64))).heap.size) := by
      obtain ⟨hC, hB, l1, l2⟩ := HC1.out
      have hlt : ga < w2.heap.size := by obtain ⟨_, ho, _⟩ := ha2; exact (ho.lt ga rfl).2
      have hsz : (w2.setCell ⟨w.heap.size, 3, none⟩ (.slice (some ⟨ga, 0, none⟩) acl.length (acl.length + 64))).heap.size = w2.heap.size := by simp [World.setCell]
      have hL := hC.lt
      have := b2.size
      refine ⟨h2.set 3 _, hB.kept (WS.kp (w := w) b2 3 _) (by omega), ha2.kept ((Kept.refl w2 (fun k => k = w.heap.size)).setCell ⟨w.heap.size, 3, none⟩ _ (fun _ => rfl)) (by omega), l1, by omega, by omega, by omega⟩
    have c1 := h2.rc 3
    have f1 := h2.rf 3
    have x9 := h2.rc 9
    simp at c1 x9
    clear ha2 b2 h2 HA hga HC1
    go_wp2_with fail
    clear c1 f1 x9
    refine (HW.out _ HC2.out.1.bel).mono ?_
    rintro e w3 ⟨rfl, hw3, b3⟩
    generalize hU : w2.setCell ⟨w.heap.size, 3, none⟩ (.slice (some ⟨ga, 0, none⟩) acl.length (acl.length + 64)) = U2 at *
    clear hU
    obtain ⟨gw, hgw⟩ : ∃ gw, gw = U2.heap.size := ⟨_, rfl⟩
    rw [← hgw] at hw3
    rw [← hgw]
    have h3 := HC2.out.1.later b3
    have HC3 : Hid (WS w (w3.setCell ⟨w.heap.size, 9, none⟩ (.slice (some ⟨gw, 0, none⟩) who.length (who.length + 64))) #[.int .i8 kind, .string path, .slice (some ⟨gd, 0, none⟩) data.length (data.length + 64), .slice (some ⟨ga, 0, none⟩) acl.length (acl.length + 64), .int .i32 ver, .bool eph, .bool seq, .int .i64 ses, .int .i32 tmo, .slice (some ⟨gw, 0, none⟩) who.length (who.length + 64), .slice oa n occ] ∧ WidB (w3.setCell ⟨w.heap.size, 9, none⟩ (.slice (some ⟨gw, 0, none⟩) who.length (who.length + 64))) gd data ∧ WidE (w3.setCell ⟨w.heap.size, 9, none⟩ (.slice (some ⟨gw, 0, none⟩) who.length (who.length + 64))) ga acl ∧ WidI (w3.setCell ⟨w.heap.size, 9, none⟩ (.slice (some ⟨gw, 0, none⟩) who.length (who.length + 64))) gw who ∧ w.heap.size + 2 ≤ gd ∧ w.heap.size + 2 ≤ ga ∧ w.heap.size + 2 ≤ gw ∧ gd < (w3.setCell ⟨w.heap.size, 9, none⟩ (.slice (some ⟨gw, 0, none⟩) who.length (who.length + 64))).heap.size ∧ ga < (w3.setCell ⟨w.heap.size, 9, none⟩ (.slice (some ⟨gw, 0, none⟩) who.length (who.length + 64))).heap.size ∧ gw < (w3.setCell ⟨w.heap.size, 9, none⟩ (.slice (some ⟨gw, 0, none⟩) who.length (who.length + 64))).heap.size) := by
      obtain ⟨hC, hB, hA, l1, l2, l3, l4⟩ := HC2.out
      have hlt : gw < w3.heap.size := by obtain ⟨_, ho, _⟩ := hw3; exact (ho.lt gw rfl).2
      have hsz : (w3.setCell ⟨w.heap.size, 9, none⟩ (.slice (some ⟨gw, 0, none⟩) who.length (who.length + 64))).heap.size = w3.heap.size := by simp [World.setCell]
      have hL := hC.lt
      have := b3.size
      refine ⟨h3.set 9 _, hB.kept (WS.kp (w := w) b3 9 _) (by omega), hA.kept (WS.kp (w := w) b3 9 _) (by omega), hw3.kept ((Kept.refl w3 (fun k => k = w.heap.size)).setCell ⟨w.heap.size, 9, none⟩ _ (fun _ => rfl)) (by omega), l1, l2, by omega, by omega, by omega, by omega⟩
    have c1 := h3.rc 9
    have f1 := h3.rf 9
    have x10 := h3.rc 10
    simp at c1 x10
    clear hw3 b3 h3 HW hgw HC2
    go_wp2_with fail
    clear c1 f1 x10
    refine (HO.out _ HC3.out.1.bel).mono ?_
    rintro e w4 ⟨oc', rfl, ho4, hq4, b4⟩
    generalize hU : w3.setCell ⟨w.heap.size, 9, none⟩ (.slice (some ⟨gw, 0, none⟩) who.length (who.length + 64)) = U3 at *
    clear hU
    obtain ⟨go, hgo⟩ : ∃ go, go = U3.heap.size := ⟨_, rfl⟩
    rw [← hgo] at ho4 hq4
    rw [← hgo]
    have h4 := HC3.out.1.later b4
    have HC4 : Hid (WS w (w4.setCell ⟨w.heap.size, 10, none⟩ (.slice (some ⟨go, 0, none⟩) n (n + 64))) #[.int .i8 kind, .string path, .slice (some ⟨gd, 0, none⟩) data.length (data.length + 64), .slice (some ⟨ga, 0, none⟩) acl.length (acl.length + 64), .int .i32 ver, .bool eph, .bool seq, .int .i64 ses, .int .i32 tmo, .slice (some ⟨gw, 0, none⟩) who.length (who.length + 64), .slice (some ⟨go, 0, none⟩) n (n + 64)] ∧ WidQ (w4.setCell ⟨w.heap.size, 10, none⟩ (.slice (some ⟨go, 0, none⟩) n (n + 64))) (fun k => w.heap.size + 2 ≤ k ∧ k < (w4.setCell ⟨w.heap.size, 10, none⟩ (.slice (some ⟨go, 0, none⟩) n (n + 64))).heap.size) [.int .i8 kind, .string path, .slice (some ⟨gd, 0, none⟩) data.length (data.length + 64), .slice (some ⟨ga, 0, none⟩) acl.length (acl.length + 64), .int .i32 ver, .bool eph, .bool seq, .int .i64 ses, .int .i32 tmo, .slice (some ⟨gw, 0, none⟩) who.length (who.length + 64), .slice (some ⟨go, 0, none⟩) n (n + 64)] (.mk ⟨kind, path, data, acl, ver, eph, seq, ses, tmo, who⟩ n ops)) := by
      obtain ⟨hC, hB, hA, hI, l1, l2, l3, l4, l5, l6⟩ := HC3.out
      have hlt : go < w4.heap.size := by obtain ⟨_, ho, _⟩ := ho4; exact (ho.lt go rfl).2
      have hsz : (w4.setCell ⟨w.heap.size, 10, none⟩ (.slice (some ⟨go, 0, none⟩) n (n + 64))).heap.size = w4.heap.size := by simp [World.setCell]
      have hL := hC.lt
      have := b4.size
      have hk4 : Kept w4 (w4.setCell ⟨w.heap.size, 10, none⟩ (.slice (some ⟨go, 0, none⟩) n (n + 64))) (fun k => k = w.heap.size) := (Kept.refl w4 (fun k => k = w.heap.size)).setCell ⟨w.heap.size, 10, none⟩ _ (fun _ => rfl)
      refine ⟨h4.set 10 _, ?_⟩
      exact .mk ⟨kind, path, data, acl, ver, eph, seq, ses, tmo, who⟩ n ops gd ga gw go oc' (hB.kept (WS.kp (w := w) b4 10 _) (by omega)) (hA.kept (WS.kp (w := w) b4 10 _) (by omega)) (hI.kept (WS.kp (w := w) b4 10 _) (by omega)) (ho4.kept hk4 (by omega))
        ⟨by omega, by omega⟩ ⟨by omega, by omega⟩ ⟨by omega, by omega⟩ ⟨by omega, by omega⟩ (fun i => WidQ.kept hk4 (fun q hq => ⟨by omega, by omega, by omega⟩) (hq4 i))
    have y10 := h4.rc 10
    have f1 := h4.rf 10
    simp at y10
    have c0 : w4.cell? ⟨w.heap.size, 0, none⟩ = some (.int .i8 kind) := h4.rc 0
    have c1 : w4.cell? ⟨w.heap.size, 1, none⟩ = some (.string path) := h4.rc 1
    have c2 : w4.cell? ⟨w.heap.size, 2, none⟩ = some (.slice (some ⟨gd, 0, none⟩) data.length (data.length + 64)) := h4.rc 2
    have c3 : w4.cell? ⟨w.heap.size, 3, none⟩ = some (.slice (some ⟨ga, 0, none⟩) acl.length (acl.length + 64)) := h4.rc 3
    have c4 : w4.cell? ⟨w.heap.size, 4, none⟩ = some (.int .i32 ver) := h4.rc 4
    have c5 : w4.cell? ⟨w.heap.size, 5, none⟩ = some (.bool eph) := h4.rc 5
    have c6 : w4.cell? ⟨w.heap.size, 6, none⟩ = some (.bool seq) := h4.rc 6
    have c7 : w4.cell? ⟨w.heap.size, 7, none⟩ = some (.int .i64 ses) := h4.rc 7
    have c8 : w4.cell? ⟨w.heap.size, 8, none⟩ = some (.int .i32 tmo) := h4.rc 8
    have c9 : w4.cell? ⟨w.heap.size, 9, none⟩ = some (.slice (some ⟨gw, 0, none⟩) who.length (who.length + 64)) := h4.rc 9
    have o0 : w4.cell? ⟨w.heap.size + 1, 0, none⟩ = some (.int .i8 0) := by rw [cell_of_row _ _ _ _ _ _ h4.o]; rfl
    have o1 : w4.cell? ⟨w.heap.size + 1, 1, none⟩ = some (.string ⟨#[]⟩) := by rw [cell_of_row _ _ _ _ _ _ h4.o]; rfl
    have o2 : w4.cell? ⟨w.heap.size + 1, 2, none⟩ = some (.slice none 0 0) := by rw [cell_of_row _ _ _ _ _ _ h4.o]; rfl
    have o3 : w4.cell? ⟨w.heap.size + 1, 3, none⟩ = some (.slice none 0 0) := by rw [cell_of_row _ _ _ _ _ _ h4.o]; rfl
    have o4 : w4.cell? ⟨w.heap.size + 1, 4, none⟩ = some (.int .i32 0) := by rw [cell_of_row _ _ _ _ _ _ h4.o]; rfl
    have o5 : w4.cell? ⟨w.heap.size + 1, 5, none⟩ = some (.bool false) := by rw [cell_of_row _ _ _ _ _ _ h4.o]; rfl
    have o6 : w4.cell? ⟨w.heap.size + 1, 6, none⟩ = some (.bool false) := by rw [cell_of_row _ _ _ _ _ _ h4.o]; rfl
    have o7 : w4.cell? ⟨w.heap.size + 1, 7, none⟩ = some (.int .i64 0) := by rw [cell_of_row _ _ _ _ _ _ h4.o]; rfl
    have o8 : w4.cell? ⟨w.heap.size + 1, 8, none⟩ = some (.int .i32 0) := by rw [cell_of_row _ _ _ _ _ _ h4.o]; rfl
    have o9 : w4.cell? ⟨w.heap.size + 1, 9, none⟩ = some (.slice none 0 0) := by rw [cell_of_row _ _ _ _ _ _ h4.o]; rfl
    have o10 : w4.cell? ⟨w.heap.size + 1, 10, none⟩ = some (.slice none 0 0) := by rw [cell_of_row _ _ _ _ _ _ h4.o]; rfl
    have p0 : w4.frozen? ⟨w.heap.size + 1, 0, none⟩ = false := frozen_of_row _ _ _ _ _ h4.o
    have p1 : w4.frozen? ⟨w.heap.size + 1, 1, none⟩ = false := frozen_of_row _ _ _ _ _ h4.o
    have p2 : w4.frozen? ⟨w.heap.size + 1, 2, none⟩ = false := frozen_of_row _ _ _ _ _ h4.o
    have p3 : w4.frozen? ⟨w.heap.size + 1, 3, none⟩ = false := frozen_of_row _ _ _ _ _ h4.o
    have p4 : w4.frozen? ⟨w.heap.size + 1, 4, none⟩ = false := frozen_of_row _ _ _ _ _ h4.o
    have p5 : w4.frozen? ⟨w.heap.size + 1, 5, none⟩ = false := frozen_of_row _ _ _ _ _ h4.o
    have p6 : w4.frozen? ⟨w.heap.size + 1, 6, none⟩ = false := frozen_of_row _ _ _ _ _ h4.o
    have p7 : w4.frozen? ⟨w.heap.size + 1, 7, none⟩ = false := frozen_of_row _ _ _ _ _ h4.o
    have p8 : w4.frozen? ⟨w.heap.size + 1, 8, none⟩ = false := frozen_of_row _ _ _ _ _ h4.o
    have p9 : w4.frozen? ⟨w.heap.size + 1, 9, none⟩ = false := frozen_of_row _ _ _ _ _ h4.o
    have p10 : w4.frozen? ⟨w.heap.size + 1, 10, none⟩ = false := frozen_of_row _ _ _ _ _ h4.o
    clear ho4 hq4 b4 HO hgo HC3 h4
    go_wp2_with fail
    clear f1 y10 c0 c1 c2 c3 c4 c5 c6 c7 c8 c9 o0 p0 o1 p1 o2 p2 o3 p3 o4 p4 o5 p5 o6 p6 o7 p7 o8 p8 o9 p9 o10 p10
    generalize hU : w4.setCell ⟨w.heap.size, 10, none⟩ (.slice (some ⟨go, 0, none⟩) n (n + 64)) = U4 at *
    clear hU
    obtain ⟨hC, hQ⟩ := HC4.out
    obtain ⟨hrow, hk'⟩ := stored11 (.int .i8 kind) (.string path) (.slice (some ⟨gd, 0, none⟩) data.length (data.length + 64)) (.slice (some ⟨ga, 0, none⟩) acl.length (acl.length + 64)) (.int .i32 ver) (.bool eph) (.bool seq) (.int .i64 ses) (.int .i32 tmo) (.slice (some ⟨gw, 0, none⟩) who.length (who.length + 64)) (.slice (some ⟨go, 0, none⟩) n (n + 64)) hC.o
    have hld := run_loadVar_row (P := Tryz.prog) _ _ _ 33 _ _ _ hrow Tryz.underlying33 rfl rq_size
    have hs' := hk'.size
    refine bodyPost_ret (v := .agg #[.int .i8 kind, .string path, .slice (some ⟨gd, 0, none⟩) data.length (data.length + 64), .slice (some ⟨ga, 0, none⟩) acl.length (acl.length + 64), .int .i32 ver, .bool eph, .bool seq, .int .i64 ses, .int .i32 tmo, .slice (some ⟨gw, 0, none⟩) who.length (who.length + 64), .slice (some ⟨go, 0, none⟩) n (n + 64)]) ?_ rfl ⟨[.int .i8 kind, .string path, .slice (some ⟨gd, 0, none⟩) data.length (data.length + 64), .slice (some ⟨ga, 0, none⟩) acl.length (acl.length + 64), .int .i32 ver, .bool eph, .bool seq, .int .i64 ses, .int .i32 tmo, .slice (some ⟨gw, 0, none⟩) who.length (who.length + 64), .slice (some ⟨go, 0, none⟩) n (n + 64)], rfl, WidQ.kept hk' (fun q hq => ⟨fun e => by omega, by omega, Nat.lt_of_lt_of_le hq.2 hs'⟩) hQ, hC.bel.trans (hk'.below hC.bel.size (fun q e => by omega))⟩
    rw [resCell1 Tryz.results18]
    show ((asAddr (.pointer (some ⟨w.heap.size + 1, 0, none⟩))).run Tryz.prog _).andThen _ = _
    simp only [asAddr, Sem.run_pure, Result.andThen_ok, hld]
end Go.Proofs.YtoeialngbbfoeaaGreatDoor
