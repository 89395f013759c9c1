/- SpareTxns of lagoonref00: the marks behind wide transactions' lists stand. -/
import Derived.Test.YtobnggkgpenmfaaGreatDoorChOJ
import Derived.Test.YtobnggkgpenmfaaGreatDoorWdGJ
namespace Go.Proofs.YtobnggkgpenmfaaGreatDoor
open Go.RowKit Go.Shelf
set_option maxRecDepth 8000

set_option maxHeartbeats 4000000 in
theorem spareTxns_any (g : Nat) (F : Nat → Prop) (l : List TxD) (w : World) (h : WidT w g F l) (hF : ∀ k, F k → k < w.heap.size) (hl : l.length ≤ 1000000) (hp : ∀ t ∈ l, t.rq.parts ≤ 20000) (ht : Tab w) (hg0 : 1 < w.heap.size) :
    Calls Tryz.prog 11 #[.slice (some ⟨g, 0, none⟩) l.length (l.length + 64)] w fun e w' => e = .returned (.bool true) ∧ Below w.heap.size w w' := by
  have HS : Hid (WidT w g F l ∧ (∀ k, F k → k < w.heap.size) ∧ ∀ t ∈ l, t.rq.parts ≤ 20000) := ⟨h, hF, hp⟩
  have HT : Hid (∀ W, Below w.heap.size w W → Tab W ∧ 1 < W.heap.size) := fun W hW => ⟨ht.below hW hg0, Nat.lt_of_lt_of_le hg0 hW.size⟩
  clear h hF hp ht hg0
  go_enter Tryz.func11, Tryz.ntmps11
  go_wp2_with fail
  go_loop [4] (fun i => ∃ k : Nat, l.length ≤ k ∧ k ≤ l.length + 64 ∧ i = .int .i64 k) (fun i => l.length + 64 - (intOf i).toNat)
  case atStart => exact ⟨l.length, Nat.le_refl _, by omega, rfl⟩
  case round =>
    obtain ⟨k, hk0, hk, rfl⟩ := hrel
    by_cases hlt : k < l.length + 64
    · have hc := HS.out.1.mark k hk0 hlt
      go_wp2_with fail
      go_round
      case rel => exact ⟨k + 1, by omega, by omega, by go_num⟩
      case measure => simp [intOf]; omega
    · obtain rfl : k = l.length + 64 := by omega
      go_wp2_with fail
      go_loopw [5] (fun i wr => ∃ k : Nat, k ≤ l.length ∧ i = .int .i64 k ∧ Hid (Below w.heap.size w wr)) (fun i _ => l.length - (intOf i).toNat)
      case atStart => exact ⟨0, Nat.zero_le _, rfl, Below.refl _ _⟩
      case round =>
        obtain ⟨k, hk, rfl, HB⟩ := hrel
        by_cases hlx : k < l.length
        · obtain ⟨rc, hq, hat⟩ := (HS.out.1.below HS.out.2.1 HB.out).at_ k hlx
          have hpk := HS.out.2.2 l[k] (List.getElem_mem hlx)
          have HX := spareRequest_any l[k].rq F rc wr hq (fun q hq => Nat.lt_of_lt_of_le (HS.out.2.1 q hq) HB.out.size) hpk (HT.out _ HB.out).1 (HT.out _ HB.out).2
          obtain ⟨qx0, qx1, dx0, dx1, dx2, ax0, ax1, ax2, qx4, qx5, qx6, qx7, qx8, ex0, ex1, ex2, ox0, ox1, ox2, hcs⟩ := rq_forms (hq.sees hpk)
          rw [hcs] at hat HX
          have g5 : wr.cell? ⟨g, k * 16 + 5, none⟩ = some (.int .i8 qx0) := hat 5 (by omega)
          have g6 : wr.cell? ⟨g, k * 16 + 6, none⟩ = some (.string qx1) := hat 6 (by omega)
          have g7 : wr.cell? ⟨g, k * 16 + 7, none⟩ = some (.slice dx0 dx1 dx2) := hat 7 (by omega)
          have g8 : wr.cell? ⟨g, k * 16 + 8, none⟩ = some (.slice ax0 ax1 ax2) := hat 8 (by omega)
          have g9 : wr.cell? ⟨g, k * 16 + 9, none⟩ = some (.int .i32 qx4) := hat 9 (by omega)
          have g10 : wr.cell? ⟨g, k * 16 + 10, none⟩ = some (.bool qx5) := hat 10 (by omega)
          have g11 : wr.cell? ⟨g, k * 16 + 11, none⟩ = some (.bool qx6) := hat 11 (by omega)
          have g12 : wr.cell? ⟨g, k * 16 + 12, none⟩ = some (.int .i64 qx7) := hat 12 (by omega)
          have g13 : wr.cell? ⟨g, k * 16 + 13, none⟩ = some (.int .i32 qx8) := hat 13 (by omega)
          have g14 : wr.cell? ⟨g, k * 16 + 14, none⟩ = some (.slice ex0 ex1 ex2) := hat 14 (by omega)
          have g15 : wr.cell? ⟨g, k * 16 + 15, none⟩ = some (.slice ox0 ox1 ox2) := hat 15 (by omega)
          clear hat hcs hq hpk
          go_wp2_with fail
          refine HX.mono ?_
          rintro e w5 ⟨rfl, b5⟩
          have HR : Hid (Below w.heap.size w w5) := HB.out.trans (b5.mono HB.out.size)
          clear HX b5 g5 g6 g7 g8 g9 g10 g11 g12 g13 g14 g15
          go_wp2_with fail
          go_roundw
          case rel => exact ⟨k + 1, by omega, by go_num, HR⟩
          case measure => simp [intOf]; omega
        · go_wp2_with fail
          go_ret
          exact ⟨rfl, HB.out⟩
end Go.Proofs.YtobnggkgpenmfaaGreatDoor
