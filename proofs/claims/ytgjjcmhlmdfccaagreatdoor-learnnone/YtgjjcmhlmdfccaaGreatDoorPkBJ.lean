/- isTxnRight of package packet, and the twelve rows' tests in one form. -/
import Derived.Test.YtgjjcmhlmdfccaaGreatDoorPkAJ
import Derived.Test.YtgjjcmhlmdfccaaGreatDoorCopyXJ
namespace Go.Proofs.YtgjjcmhlmdfccaaGreatDoor
open Go.RowKit
set_option maxRecDepth 8000

theorem txSz : (Tryz.prog.info? 37).map (·.size) = some 16 := by kernel_rfl

def txB15 (p : PkD) : Bool := txOk p.tx && (if p.kind = 13 then decide ((p.tx.ep = 0 ∧ p.tx.n = 0) ∧ 1 ≤ p.tx.num) else decide (0 < zcmp p.tx.ep p.tx.n p.pe p.pn))

/-- The transaction's own numbers, in a packet. -/
theorem PkAt.txHead {W : World} {g : Nat} {p : PkD} {tc : List Value} {bv : Value} (h : PkAt W g p tc bv) {w : World} (hs : SeesTx w tc p.tx) : W.cell? ⟨g, 14, none⟩ = some (.int .u32 p.tx.ep) ∧ W.cell? ⟨g, 15, none⟩ = some (.int .u32 p.tx.n) ∧ W.cell? ⟨g, 18, none⟩ = some (.int .i64 p.tx.num) := by
  have ht := (h.tail hs.len).1
  obtain ⟨rc, rfl, _⟩ := hs
  exact ⟨ht 0 _ rfl, ht 1 _ rfl, ht 4 _ rfl⟩

set_option maxHeartbeats 1000000 in
theorem rtTxn (p : PkD) (tc : List Value) (bv : Value) (w : World) (hg : p.good) (hs : SeesTx w tc p.tx) (hn : Nam w) :
    Calls Tryz.prog 90 #[.agg (pkL p tc bv).toArray] w fun r w' => r = .returned (.bool (txB15 p)) ∧ Below w.heap.size w w' := by
  obtain ⟨W, HE, HW⟩ := pk_box p tc bv w
  have HS : Hid (SeesTx w tc p.tx ∧ Nam w ∧ p.good) := ⟨hs, hn, hg⟩
  have l14 := (HW.out.2.tail hs.len).1
  have q16 : (Tryz.prog.info? 37).map (·.size) = some tc.length := by rw [hs.len]; exact txSz
  have hgt : Tryz.prog.eqGuardType Tryz.prog.depth 27 = false := by kernel_rfl
  have HZ := eqZx p.tx.ep p.tx.n 0 0
  clear hs hn hg
  go_enter Tryz.func90, Tryz.ntmps90
  go_upto_region 1 with fail
  rw [← HE.out]
  clear HE
  go_wp2_with (refine wpList_load_mid rfl 37 _ rfl w.heap.size 14 rfl tc _ l14 Tryz.underlying37 rfl q16 ?_)
  clear l14
  refine (check_any tc p.tx _ (HS.out.1.below HW.out.1 (Nat.le_refl _)) HS.out.2.2.tx (HS.out.2.1.below HW.out.1 HS.out.2.1.lt)).mono ?_
  rintro _ w1 ⟨rfl, b1⟩
  have HB : Hid (Below w.heap.size w w1 ∧ PkAt w1 w.heap.size p tc bv) := ⟨HW.out.1.trans (b1.mono HW.out.1.size), HW.out.2.later b1 HW.out.2.lt⟩
  clear b1
  obtain ⟨c14, c15, c18⟩ := HB.out.2.txHead HS.out.1
  have c0 : w1.cell? ⟨w.heap.size, 0, none⟩ = some (.int .i8 p.kind) := pk_at HB.out.2 rfl
  have c10 : w1.cell? ⟨w.heap.size, 10, none⟩ = some (.int .u32 p.pe) := pk_at HB.out.2 rfl
  have c11 : w1.cell? ⟨w.heap.size, 11, none⟩ = some (.int .u32 p.pn) := pk_at HB.out.2 rfl
  cases hok : txOk p.tx
  · have HR : Hid (txB15 p = false) := by show txB15 p = false; unfold txB15; rw [hok]; rfl
    go_wp2_with fail
    all_goals (go_ret; exact ⟨by rw [HR.out]; rfl, HB.out.1⟩)
  · by_cases k : p.kind = 13
    · have HR : Hid (txB15 p = decide ((p.tx.ep = 0 ∧ p.tx.n = 0) ∧ 1 ≤ p.tx.num)) := by show txB15 p = _; unfold txB15; rw [hok, if_pos k]; rfl
      rw [k] at c0
      clear k hok
      by_cases hz : p.tx.ep = 0 ∧ p.tx.n = 0
      · rw [decide_eq_true hz] at HZ
        have HD : Hid (decide ((p.tx.ep = 0 ∧ p.tx.n = 0) ∧ 1 ≤ p.tx.num) = decide (1 ≤ p.tx.num)) := by show decide _ = decide _; simp [hz]
        clear hz
        go_wp2_with fail
        all_goals (go_ret; exact ⟨by rw [HR.out, HD.out]; rfl, HB.out.1⟩)
      · rw [decide_eq_false hz] at HZ
        have HD : Hid (decide ((p.tx.ep = 0 ∧ p.tx.n = 0) ∧ 1 ≤ p.tx.num) = false) := decide_eq_false (fun h => hz h.1)
        clear hz
        go_wp2_with fail
        all_goals (go_ret; exact ⟨by rw [HR.out, HD.out]; rfl, HB.out.1⟩)
    · have HR : Hid (txB15 p = decide (0 < zcmp p.tx.ep p.tx.n p.pe p.pn)) := by show txB15 p = _; unfold txB15; rw [hok, if_neg k]; rfl
      have k' : (p.kind == 13) = false := by simp [k]
      clear k hok
      go_wp2_with fail
      refine (compare_any _ _ _ _ _).mono ?_
      rintro _ w2 ⟨rfl, b2⟩
      have HF : Hid (Below w.heap.size w w2) := HB.out.1.trans (b2.mono HB.out.1.size)
      clear b2 c14 c15 c18 c0 c10 c11
      go_wp2_with fail
      all_goals (go_ret; exact ⟨by rw [HR.out]; rfl, HF.out⟩)
end Go.Proofs.YtgjjcmhlmdfccaaGreatDoor
