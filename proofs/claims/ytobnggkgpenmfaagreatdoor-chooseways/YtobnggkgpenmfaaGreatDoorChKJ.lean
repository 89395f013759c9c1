/- What Under and Size of the document's layer 14 answer, for all that came in. -/
import Derived.Test.YtobnggkgpenmfaaGreatDoorStAJ
import Derived.Test.YtobnggkgpenmfaaGreatDoorWeDJ
namespace Go.Proofs.YtobnggkgpenmfaaGreatDoor
open Go.RowKit
set_option maxRecDepth 8000

set_option maxHeartbeats 400000 in
theorem refUnder_any (b i : Int) (x : Nat) (w : World) :
    Calls Tryz.prog 16 #[.int .i64 b, .int .i64 i, .float .f64 x] w fun r w' => r = .returned (.bool (undB b i x)) ∧ Below w.heap.size w w' := by
  unfold undB
  cases hm : Ieee.double.mul x (floatOfInt .f64 i) with
  | some r =>
    have hb : ∀ w, (binOp .mul 26 (.float .f64 x) (.float .f64 (floatOfInt .f64 i))).run Tryz.prog w = .ok (.float .f64 r) w := fun w => run_float_arith w .mul _ .f64 _ _ r hm
    clear hm
    go_enter Tryz.func16, Tryz.ntmps16
    go_wp2
    go_ret
    exact ⟨rfl, Below.refl _ _⟩
  | none =>
    obtain ⟨nb, hn, hb⟩ := mul_none x (floatOfInt .f64 i) w hm
    have h1 : (FloatKind.f64.format.order (floatOfInt .f64 b) nb == some .lt) = false := by
      show (Ieee.double.order _ _ == _) = false
      rw [hn]; rfl
    have h2 : (FloatKind.f64.format.order (floatOfInt .f64 b) nb == some .eq) = false := by
      show (Ieee.double.order _ _ == _) = false
      rw [hn]; rfl
    clear hm hn
    go_enter Tryz.func16, Tryz.ntmps16
    go_wp2
    go_ret
    exact ⟨by simp, below_drewN (Below.refl _ _) 1⟩

/-- What the document's Write answers, as far as its length goes. -/
theorem refWrite_len (t : TxD) (cs : List Value) (w : World) (hs : SeesTx w cs t) (hg : t.good) :
    Calls Tryz.prog 28 #[.agg cs.toArray] w fun r w' => ∃ a c, r = .returned (.tuple #[.slice a (szT t) c, .int .i64 (if txOk t then 0 else 40)]) ∧ Below w.heap.size w w' := by
  obtain ⟨rc, rfl, hr⟩ := hs
  refine (refWrite_any t rc w hr hg).mono ?_
  rintro _ w1 ⟨v, rfl, hv, b⟩
  obtain ⟨vb, vc, rfl, _⟩ := Sees.own hv
  have e : szT t = (if txOk t then txB t else []).length := by unfold szT; cases txOk t <;> rfl
  rw [e]
  exact ⟨vb, vc, rfl, b⟩

set_option maxHeartbeats 2000000 in
theorem refSize_any (v : Value) (l : List TxD) (w : World) (h : SeesTxs w v l) (hg : ∀ t ∈ l, t.good) (hl : l.length ≤ 1000000) :
    Calls Tryz.prog 14 #[v] w fun r w' => r = .returned (.int .i64 (szL l)) ∧ Below w.heap.size w w' := by
  obtain ⟨ao, cap, rfl, hlc, hcm⟩ := txs_shape h
  have H : Hid (SeesTxs w (.slice ao l.length cap) l ∧ (∀ t ∈ l, t.good)) := ⟨h, hg⟩
  unfold maxLen at hcm
  clear h hg
  go_enter Tryz.func14, Tryz.ntmps14
  go_wp2_with fail
  go_loopw [3, 4, 5, 6] (fun n i _ _ wr => ∃ k : Nat, k ≤ l.length ∧ i = .int .i64 k ∧ n = .int .i64 (szL (l.take k)) ∧ Hid (Below w.heap.size w wr)) (fun _ i _ _ _ => l.length - (intOf i).toNat)
  case atStart => exact ⟨0, Nat.zero_le _, rfl, rfl, Below.refl _ _⟩
  case round =>
    obtain ⟨k, hk, rfl, rfl, HB⟩ := hrel
    by_cases hlt : k < l.length
    · obtain ⟨b, off, cap', cs, hv, hs, hc16, l0⟩ := txs_row (H.out.1.below HB.out (Nat.le_refl _)) k hlt
      simp at hv
      obtain ⟨rfl, rfl⟩ := hv
      have q16 : (Tryz.prog.info? 49).map (·.size) = some cs.length := by rw [hc16]; exact tx_size
      have HX : Hid (SeesTx wr cs l[k] ∧ l[k].good) := ⟨hs, H.out.2 _ (List.getElem_mem hlt)⟩
      have HN : Hid (szL (l.take (k + 1)) = szL (l.take k) + szT l[k] ∧ szL (l.take k) ≤ 4096 * k ∧ szT l[k] ≤ 4096 ∧ (txOk l[k] = false → szT l[k] = 0)) := ⟨szL_next l k hlt, szL_take l k, szT_le _, fun h => by unfold szT; rw [h]; rfl⟩
      clear hs
      go_wp2_with (refine wpList_load_mid rfl 49 _ rfl b (off + k * 16) rfl cs _ l0 Tryz.underlying49 rfl q16 ?_)
      refine (refWrite_len l[k] cs _ HX.out.1 HX.out.2).mono ?_
      rintro _ w2 ⟨va, vc, rfl, b2⟩
      have HB2 : Hid (Below w.heap.size w w2) := HB.out.trans (b2.mono HB.out.size)
      clear l0 b2 HX
      generalize l[k] = t at *
      obtain ⟨m, hm⟩ : ∃ m, m = szL (l.take k) := ⟨_, rfl⟩
      obtain ⟨m', hm'⟩ : ∃ m', m' = szT t := ⟨_, rfl⟩
      rw [← hm, ← hm'] at HN
      rw [← hm, ← hm']
      clear hm hm'
      have hn1 := HN.out.2.1
      have hn2 := HN.out.2.2.1
      cases hok : txOk t with
      | true =>
        go_wp2_with fail
        go_roundw
        case rel => exact ⟨k + 1, by omega, by go_num, by rw [HN.out.1]; go_num, HB2⟩
        case measure => simp [intOf]; omega
      | false =>
        have HZ : Hid (m' = 0) := HN.out.2.2.2 hok
        go_wp2_with fail
        go_roundw
        case rel => exact ⟨k + 1, by omega, by go_num, by rw [HN.out.1, HZ.out]; rfl, HB2⟩
        case measure => simp [intOf]; omega
    · obtain rfl : k = l.length := by omega
      rw [List.take_length]
      go_wp2_with fail
      go_ret
      exact ⟨rfl, HB.out⟩
end Go.Proofs.YtobnggkgpenmfaaGreatDoor
