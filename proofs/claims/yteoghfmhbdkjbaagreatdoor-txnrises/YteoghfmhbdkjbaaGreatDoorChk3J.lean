/- SpareTxns of lagoonref00: the marks behind wide transactions' lists stand. -/
import Derived.Test.YteoghfmhbdkjbaaGreatDoorWdIJ
import Derived.Test.YteoghfmhbdkjbaaGreatDoorWdGJ
import Derived.Test.YteoghfmhbdkjbaaGreatDoorChk2J
namespace Go.Proofs.YteoghfmhbdkjbaaGreatDoor
open Go.RowKit Go.Shelf
set_option maxRecDepth 8000

set_option maxHeartbeats 4000000 in
theorem spareTxns_any (g : Nat) (F : Nat → Prop) (l : List TxD) (w : World) (h : WidT w g F l) (hF : ∀ k, F k → k < w.heap.size) (hl : l.length ≤ 1000000) (hp : ∀ t ∈ l, t.rq.parts ≤ 20000) (ht : Tab w) (hg0 : 1 < w.heap.size) :
    Calls Tryz.prog 18 #[.slice (some ⟨g, 0, none⟩) l.length (l.length + 64)] w fun e w' => e = .returned (.bool true) ∧ Below w.heap.size w w' := by
  have HS : Hid (WidT w g F l ∧ (∀ k, F k → k < w.heap.size) ∧ ∀ t ∈ l, t.rq.parts ≤ 20000) := ⟨h, hF, hp⟩
  have HT : Hid (∀ W, Below w.heap.size w W → Tab W ∧ 1 < W.heap.size) := fun W hW => ⟨ht.below hW hg0, Nat.lt_of_lt_of_le hg0 hW.size⟩
  clear h hF hp ht hg0
  go_enter Tryz.func18, Tryz.ntmps18
  go_wp2_with fail
  go_loop [4] (fun i => ∃ k : Nat, l.length ≤ k ∧ k ≤ l.length + 64 ∧ i = .int .i64 k) (fun i => l.length + 64 - (intOf i).toNat)
  case atStart => exact ⟨l.length, Nat.le_refl _, by omega, rfl⟩
  case round =>
    obtain ⟨k, hk0, hk, rfl⟩ := hrel
    by_cases hlt : k < l.length + 64
    · have hc := HS.out.1.mark k hk0 hlt
      go_wp2_with fail
      go_round
      case rel => exact ⟨k + 1, by omega, by omega, by go_num⟩
      case measure => simp [intOf]; omega
    · obtain rfl : k = l.length + 64 := by omega
      go_wp2_with fail
      go_loopw [5] (fun i wr => ∃ k : Nat, k ≤ l.length ∧ i = .int .i64 k ∧ Hid (Below w.heap.size w wr)) (fun i _ => l.length - (intOf i).toNat)
      case atStart => exact ⟨0, Nat.zero_le _, rfl, Below.refl _ _⟩
      case round =>
        obtain ⟨k, hk, rfl, HB⟩ := hrel
        by_cases hlx : k < l.length
        · obtain ⟨rc, hq, hat⟩ := (HS.out.1.below HS.out.2.1 HB.out).at_ k hlx
          have hpk := HS.out.2.2 l[k] (List.getElem_mem hlx)
          have HX := spareRequest_any l[k].rq F rc wr hq (fun q hq => Nat.lt_of_lt_of_le (HS.out.2.1 q hq) HB.out.size) hpk (HT.out _ HB.out).1 (HT.out _ HB.out).2
          obtain ⟨qx0, qx1, dx0, dx1, dx2, ax0, ax1, ax2, qx4, qx5, qx6, qx7, qx8, ex0, ex1, ex2, ox0, ox1, ox2, hcs⟩ := rq_forms (hq.sees hpk)
          rw [hcs] at hat HX
          have g5 : wr.cell? ⟨g, k * 16 + 5, none⟩ = some (.int .i8 qx0) := hat 5 (by omega)
          have g6 : wr.cell? ⟨g, k * 16 + 6, none⟩ = some (.string qx1) := hat 6 (by omega)
          have g7 : wr.cell? ⟨g, k * 16 + 7, none⟩ = some (.slice dx0 dx1 dx2) := hat 7 (by omega)
          have g8 : wr.cell? ⟨g, k * 16 + 8, none⟩ = some (.slice ax0 ax1 ax2) := hat 8 (by omega)
          have g9 : wr.cell? ⟨g, k * 16 + 9, none⟩ = some (.int .i32 qx4) := hat 9 (by omega)
          have g10 : wr.cell? ⟨g, k * 16 + 10, none⟩ = some (.bool qx5) := hat 10 (by omega)
          have g11 : wr.cell? ⟨g, k * 16 + 11, none⟩ = some (.bool qx6) := hat 11 (by omega)
          have g12 : wr.cell? ⟨g, k * 16 + 12, none⟩ = some (.int .i64 qx7) := hat 12 (by omega)
          have g13 : wr.cell? ⟨g, k * 16 + 13, none⟩ = some (.int .i32 qx8) := hat 13 (by omega)
          have g14 : wr.cell? ⟨g, k * 16 + 14, none⟩ = some (.slice ex0 ex1 ex2) := hat 14 (by omega)
          have g15 : wr.cell? ⟨g, k * 16 + 15, none⟩ = some (.slice ox0 ox1 ox2) := hat 15 (by omega)
          clear hat hcs hq hpk
          go_wp2_with fail
          refine HX.mono ?_
          rintro e w5 ⟨rfl, b5⟩
          have HR : Hid (Below w.heap.size w w5) := HB.out.trans (b5.mono HB.out.size)
          clear HX b5 g5 g6 g7 g8 g9 g10 g11 g12 g13 g14 g15
          go_wp2_with fail
          go_roundw
          case rel => exact ⟨k + 1, by omega, by go_num, HR⟩
          case measure => simp [intOf]; omega
        · go_wp2_with fail
          go_ret
          exact ⟨rfl, HB.out⟩
end Go.Proofs.YteoghfmhbdkjbaaGreatDoor

/- What isBounded of package txn answers where all ahead of the Ops is within its bounds. -/
namespace Go.Proofs.YteoghfmhbdkjbaaGreatDoor
open Go.RowKit
set_option maxRecDepth 8000

def aclOk (l : List EnD) : Bool := decide ((l.length : Int) ≤ 4) && l.all (fun x => idOk x.id)
def whoOk (l : List IdD) : Bool := decide ((l.length : Int) ≤ 4) && l.all idOk

theorem keep7 {W W' : World} {N : Nat} {v1 v2 v3 v7 v8 v9 v10 : Value} (hb : Below W.heap.size W W') (h : W.cell? ⟨N, 1, none⟩ = some v1 ∧ W.cell? ⟨N, 2, none⟩ = some v2 ∧ W.cell? ⟨N, 3, none⟩ = some v3 ∧ W.cell? ⟨N, 7, none⟩ = some v7 ∧ W.cell? ⟨N, 8, none⟩ = some v8 ∧ W.cell? ⟨N, 9, none⟩ = some v9 ∧ W.cell? ⟨N, 10, none⟩ = some v10) :
    W'.cell? ⟨N, 1, none⟩ = some v1 ∧ W'.cell? ⟨N, 2, none⟩ = some v2 ∧ W'.cell? ⟨N, 3, none⟩ = some v3 ∧ W'.cell? ⟨N, 7, none⟩ = some v7 ∧ W'.cell? ⟨N, 8, none⟩ = some v8 ∧ W'.cell? ⟨N, 9, none⟩ = some v9 ∧ W'.cell? ⟨N, 10, none⟩ = some v10 :=
  ⟨cell_later h.1 hb (Nat.le_refl _), cell_later h.2.1 hb (Nat.le_refl _), cell_later h.2.2.1 hb (Nat.le_refl _), cell_later h.2.2.2.1 hb (Nat.le_refl _), cell_later h.2.2.2.2.1 hb (Nat.le_refl _), cell_later h.2.2.2.2.2.1 hb (Nat.le_refl _), cell_later h.2.2.2.2.2.2 hb (Nat.le_refl _)⟩

set_option maxHeartbeats 2000000 in
theorem isBounded_true (f : RqF) (n : Nat) (ops : Fin n → Rq) (dv av wv ov : Value) (oc : Fin n → List Value) (p : Fin n → Bool) (w : World)
    (hd : Sees w dv f.data) (ha : SeesR w av 3 (f.acl.map EnD.cells)) (hw : SeesR w wv 2 (f.who.map IdD.cells)) (ho : SeesR w ov 11 (List.ofFn oc)) (hs : ∀ i : Fin n, SeesRq w (oc i) (ops i)) (hn : n ≤ 140737488355328)
    (hc : ∀ i (W : World), Below w.heap.size w W → Calls Tryz.prog 27 #[lay 5 320, .agg (oc i).toArray] W fun r W' => r = .returned (.bool (p i)) ∧ Below W.heap.size W W')
    (b1 : f.path.size ≤ 64) (b2 : f.data.length ≤ 96) (b3 : aclOk f.acl = true) (b4 : 0 ≤ f.ses) (b5 : 0 ≤ f.tmo) (b6 : f.tmo ≤ 1000) (b7 : whoOk f.who = true) :
    Calls Tryz.prog 57 #[.agg (rqCells f dv av wv ov).toArray] w fun r w' => r = .returned (.bool (decide ((n : Int) ≤ 8) && (List.ofFn p).all id)) ∧ Below w.heap.size w w' := by
  obtain ⟨kind, path, data, acl, ver, eph, seq, ses, tmo, who⟩ := f
  simp only at hd ha hw b1 b2 b3 b4 b5 b6 b7
  obtain ⟨da, dc, rfl, _⟩ := id hd
  obtain ⟨aa, ac, ea, _⟩ := id ha
  obtain ⟨wa, wc, ew, _⟩ := id hw
  obtain ⟨oa, occ, eo, _⟩ := id ho
  rw [List.length_map] at ea ew
  rw [List.length_ofFn] at eo
  have HA : Hid (∀ W : World, Below w.heap.size w W → Calls Tryz.prog 92 #[av, .int .i64 4, .func (.func 93) #[] #[]] W fun r w' => r = .returned (.bool true) ∧ Below W.heap.size W w') := fun W hW => by
    have := isListE_any av acl 4 W (ha.below hW (Nat.le_refl _))
    rw [show (decide ((acl.length : Int) ≤ 4) && acl.all (fun x => idOk x.id)) = true from b3] at this
    exact this
  have HW : Hid (∀ W : World, Below w.heap.size w W → Calls Tryz.prog 94 #[wv, .int .i64 4, .func (.func 95) #[] #[]] W fun r w' => r = .returned (.bool true) ∧ Below W.heap.size W w') := fun W hW => by
    have := isListI_any wv who 4 W (hw.below hW (Nat.le_refl _))
    rw [show (decide ((who.length : Int) ≤ 4) && who.all (fun x => idOk x)) = true from b7] at this
    exact this
  have HO : Hid (∀ W : World, Below w.heap.size w W → Calls Tryz.prog 96 #[ov, .int .i64 8, .func (.func 27) #[lay 5 320] #[]] W fun r w' => r = .returned (.bool (decide ((n : Int) ≤ 8) && (List.ofFn p).all id)) ∧ Below W.heap.size W w') := fun W hW =>
    isListR_any ov n oc ops p 8 W (ho.below hW (Nat.le_refl _)) (fun i => (hs i).later hW (Nat.le_refl _)) hn (fun i V hV => hc i V (hW.trans (hV.mono hW.size)))
  subst ea ew eo
  clear ha hw ho hs hc hd b3 b7
  simp only [rqCells]
  generalize acl.length = al at *
  generalize who.length = wl at *
  have HB0 : Hid (∀ o : Obj, Below w.heap.size w (w.alloc o).drew) := fun o => below_drewN (one_alloc w o) 1
  go_enter Tryz.func57, Tryz.ntmps57
  go_wp2_with fail
  generalize eW0 : (w.alloc (.cells #[.int .i8 kind, .string path, .slice da data.length dc, .slice aa al ac, .int .i32 ver, .bool eph, .bool seq, .int .i64 ses, .int .i32 tmo, .slice wa wl wc, .slice oa n occ] 33)) = W0
  have k0 : W0.drew.cell? ⟨w.heap.size, 1, none⟩ = some (.string path) ∧ W0.drew.cell? ⟨w.heap.size, 2, none⟩ = some (.slice da data.length dc) ∧ W0.drew.cell? ⟨w.heap.size, 3, none⟩ = some (.slice aa al ac) ∧ W0.drew.cell? ⟨w.heap.size, 7, none⟩ = some (.int .i64 ses) ∧ W0.drew.cell? ⟨w.heap.size, 8, none⟩ = some (.int .i32 tmo) ∧ W0.drew.cell? ⟨w.heap.size, 9, none⟩ = some (.slice wa wl wc) ∧ W0.drew.cell? ⟨w.heap.size, 10, none⟩ = some (.slice oa n occ) := by
    subst eW0
    refine ⟨?_, ?_, ?_, ?_, ?_, ?_, ?_⟩ <;> (show World.cell? (w.alloc _) _ = _; rw [cell_of_row _ _ _ _ _ _ (heap_alloc_new _ _)]; rfl)
  have g0 : Below w.heap.size w W0.drew := by subst eW0; exact HB0.out _
  have HK0 : Hid (W0.drew.cell? ⟨w.heap.size, 1, none⟩ = some (.string path)) := k0.1
  have e1 : decide ((path.size : Int) ≤ 64) = true := by simp; omega
  have e2 : decide ((data.length : Int) ≤ 96) = true := by simp; omega
  have e4 : decide (0 ≤ ses) = true := by simpa using b4
  have e5 : decide (0 ≤ tmo) = true := by simpa using b5
  have e6 : decide (tmo ≤ 1000) = true := by simpa using b6
  clear HB0 eW0
  go_region_held (fun w' => w'.cell? ⟨w.heap.size, 1, none⟩ = some (.string path) ∧ w'.cell? ⟨w.heap.size, 2, none⟩ = some (.slice da data.length dc) ∧ w'.cell? ⟨w.heap.size, 3, none⟩ = some (.slice aa al ac) ∧ w'.cell? ⟨w.heap.size, 7, none⟩ = some (.int .i64 ses) ∧ w'.cell? ⟨w.heap.size, 8, none⟩ = some (.int .i32 tmo) ∧ w'.cell? ⟨w.heap.size, 9, none⟩ = some (.slice wa wl wc) ∧ w'.cell? ⟨w.heap.size, 10, none⟩ = some (.slice oa n occ)) (first | exact k0 | exact k1 | exact k2 | exact k3 | exact k4)
    (first
    | (go_at_call 92; refine (HA.out _ g0).mono ?_; rintro r w1 ⟨rfl, g1⟩; have g1' : Below w.heap.size w w1 := (g0.trans (g1.mono g0.size)); have k1 := keep7 g1 k0; clear k0 g0 g1)
    | (go_at_call 94; refine (HW.out _ g1').mono ?_; rintro r w2 ⟨rfl, g2⟩; have g2' : Below w.heap.size w w2 := (g1'.trans (g2.mono g1'.size)); have k2 := keep7 g2 k1; clear k1 g1' g2)
    | (go_at_call 77; refine (within_any _).mono ?_; rintro r w3 ⟨rfl, g3⟩; have g3' : Below w.heap.size w w3 := (g2'.trans (g3.mono g2'.size)); have k3 := keep7 g3 k2; clear k2 g2' g3)
    | (go_at_call 96; refine (HO.out _ g3').mono ?_; rintro r w4 ⟨rfl, g4⟩; have g4' : Below w.heap.size w w4 := (g3'.trans (g4.mono g3'.size)); have k4 := keep7 g4 k3; clear k3 g3' g4))
  have HG : Hid (Below w.heap.size w w4) := g4'
  clear g4' k4
  go_wp2
  go_ret
  exact ⟨rfl, HG.out⟩

end Go.Proofs.YteoghfmhbdkjbaaGreatDoor
