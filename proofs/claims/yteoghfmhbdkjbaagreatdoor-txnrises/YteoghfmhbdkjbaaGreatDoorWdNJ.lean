/- TxnRises of the statements of layer 4, walked: true for all that came in. -/
import Derived.Test.YteoghfmhbdkjbaaGreatDoorWdJJ
import Derived.Test.YteoghfmhbdkjbaaGreatDoorChk3J
import Derived.Test.YteoghfmhbdkjbaaGreatDoorWdLJ
import Derived.Test.YteoghfmhbdkjbaaGreatDoorWdMJ
import Derived.Test.YteoghfmhbdkjbaaGreatDoorWorks4J
namespace Go.Proofs.YteoghfmhbdkjbaaGreatDoor
open Go.RowKit Go.Shelf
set_option maxRecDepth 8000

set_option maxHeartbeats 4000000 in
theorem txnRises_walk (e n : Int) (v : Value) (l : List TxD) (w : World) (hn : Nam w) (ht : Tab w) (hg0 : 1 < w.heap.size) (h : SeesTxs w v l) (hg : ∀ t ∈ l, t.good) :
    Calls Tryz.prog 4 #[zx e n, v] w fun r w' => r = .returned (.bool true) ∧ Below w.heap.size w w' := by
  obtain ⟨ao, cap, rfl, hlc, hcm⟩ := txs_shape h
  unfold maxLen at hcm
  obtain ⟨V, eV⟩ : ∃ V, V = w.alloc (.cells #[.int .u32 e, .int .u32 n] 24) := ⟨_, rfl⟩
  have HV : Hid (Below w.heap.size w V ∧ Nam V) := by subst eV; exact ⟨one_alloc _ _, hn.below (one_alloc _ _) hn.lt⟩
  have HC : Hid (∀ W, Below V.heap.size V W → (W.cell? ⟨w.heap.size, 0, none⟩ = some (.int .u32 e) ∧ W.cell? ⟨w.heap.size, 1, none⟩ = some (.int .u32 n)) ∧ Below w.heap.size w W ∧ SeesTxs W (.slice ao l.length cap) l ∧ Tab W ∧ 1 < W.heap.size) := by
    intro W hW
    have hb := HV.out.1.trans (hW.mono HV.out.1.size)
    refine ⟨?_, hb, h.below hb (Nat.le_refl _), ht.below hb hg0, Nat.lt_of_lt_of_le hg0 hb.size⟩
    subst eV
    constructor <;> (refine cell_later ?_ hW (Nat.le_refl _); rw [cell_of_row _ _ _ _ _ _ (heap_alloc_new _ _)]; rfl)
  have HG : Hid (∀ t ∈ l, t.good) := hg
  have HE : Hid _ := eV
  clear eV hn h hg ht hg0
  go_enter Tryz.func4, Tryz.ntmps4
  go_wp2_with fail
  rw [← HE.out]
  refine (works4_any _ HV.out.2).mono ?_
  rintro r w1 ⟨rfl, b⟩
  have HB1 : Hid (Below V.heap.size V w1) := b
  clear b HE
  go_wp2_with fail
  refine (largeTxns_any _ l _ (HC.out _ HB1.out).2.2.1 HG.out).mono ?_
  rintro r w2 ⟨bl, rfl, hbl, b⟩
  have HB2 : Hid (Below V.heap.size V w2) := HB1.out.trans (b.mono HB1.out.size)
  clear b HB1
  cases bl
  · have HL : Hid (l.length ≤ 1000000 ∧ ∀ t ∈ l, t.rq.parts ≤ 20000) := hbl rfl
    clear hbl
    go_wp2_with fail
    refine (wideTxns_any _ l _ (HC.out _ HB2.out).2.2.1 HL.out.1 HL.out.2 (HC.out _ HB2.out).2.2.2.1 (HC.out _ HB2.out).2.2.2.2).mono ?_
    rintro r w3 ⟨rfl, hw3, b⟩
    obtain ⟨g, hgg⟩ : ∃ g, g = w2.heap.size := ⟨_, rfl⟩
    rw [← hgg] at hw3
    rw [← hgg]
    have HB3 : Hid (Below V.heap.size V w3) := HB2.out.trans (b.mono HB2.out.size)
    have HW3 : Hid (∀ W, Below w3.heap.size w3 W → WidT W g (fun q => g < q ∧ q < w3.heap.size) l) := fun W hW => hw3.below (fun q hq => hq.2) hW
    obtain ⟨k0, k1⟩ := (HC.out _ HB3.out).1
    clear b HB2 hw3 hgg
    go_wp2_with fail
    refine (rises_any e n _ l _ ((HW3.out _ (Below.refl _ _)).sees (by have := HL.out.1; omega) HL.out.2).zs).mono ?_
    rintro r w4 ⟨rfl, b⟩
    have HB4 : Hid (Below V.heap.size V w4 ∧ Below w3.heap.size w3 w4) := ⟨HB3.out.trans (b.mono HB3.out.size), b⟩
    clear b HB3 k0 k1
    go_wp2_with fail
    refine (eqTxns_same _ _ l _ ((HW3.out _ HB4.out.2).sees (by have := HL.out.1; omega) HL.out.2) (HC.out _ HB4.out.1).2.2.1).mono ?_
    rintro r w5 ⟨rfl, b⟩
    have HB5 : Hid (Below V.heap.size V w5 ∧ Below w3.heap.size w3 w5) := ⟨HB4.out.1.trans (b.mono HB4.out.1.size), HB4.out.2.trans (b.mono HB4.out.2.size)⟩
    clear b HB4
    go_wp2_with fail
    refine (spareTxns_any g _ l _ (HW3.out _ HB5.out.2) (fun q hq => Nat.lt_of_lt_of_le hq.2 HB5.out.2.size) HL.out.1 HL.out.2 (HC.out _ HB5.out.1).2.2.2.1 (HC.out _ HB5.out.1).2.2.2.2).mono ?_
    rintro r w6 ⟨rfl, b⟩
    have HB6 : Hid (Below V.heap.size V w6) := HB5.out.1.trans (b.mono HB5.out.1.size)
    obtain ⟨k0, k1⟩ := (HC.out _ HB6.out).1
    clear b HB5 HW3
    go_wp2_with fail
    refine (refRises_any e n _ l _ (HC.out _ HB6.out).2.2.1).mono ?_
    rintro r w7 ⟨rfl, b⟩
    have HB7 : Hid (Below w.heap.size w w7) := (HC.out _ (HB6.out.trans (b.mono HB6.out.size))).2.1
    clear b HB6 k0 k1 HC
    generalize rises e n l = q
    go_wp2_with fail
    go_ret
    exact ⟨by simp, HB7.out⟩
  · go_wp2_with fail
    go_ret
    exact ⟨rfl, (HC.out _ HB2.out).2.1⟩
end Go.Proofs.YteoghfmhbdkjbaaGreatDoor
