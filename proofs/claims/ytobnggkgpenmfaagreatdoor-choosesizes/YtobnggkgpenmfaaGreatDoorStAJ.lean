/- What Under and Size of the document's layer 14 answer, for all that came in. -/
import Derived.Test.YtobnggkgpenmfaaGreatDoorRefInt64J
import Derived.Test.YtobnggkgpenmfaaGreatDoorWeDJ
import Derived.Test.YtobnggkgpenmfaaGreatDoorRisesTJ
namespace Go.Proofs.YtobnggkgpenmfaaGreatDoor
open Go.RowKit
set_option maxRecDepth 8000

set_option maxHeartbeats 400000 in
theorem refUnder_any (b i : Int) (x : Nat) (w : World) :
    Calls Tryz.prog 16 #[.int .i64 b, .int .i64 i, .float .f64 x] w fun r w' => r = .returned (.bool (undB b i x)) ∧ Below w.heap.size w w' := by
  unfold undB
  cases hm : Ieee.double.mul x (floatOfInt .f64 i) with
  | some r =>
    have hb : ∀ w, (binOp .mul 26 (.float .f64 x) (.float .f64 (floatOfInt .f64 i))).run Tryz.prog w = .ok (.float .f64 r) w := fun w => run_float_arith w .mul _ .f64 _ _ r hm
    clear hm
    go_enter Tryz.func16, Tryz.ntmps16
    go_wp2
    go_ret
    exact ⟨rfl, Below.refl _ _⟩
  | none =>
    obtain ⟨nb, hn, hb⟩ := mul_none x (floatOfInt .f64 i) w hm
    have h1 : (FloatKind.f64.format.order (floatOfInt .f64 b) nb == some .lt) = false := by
      show (Ieee.double.order _ _ == _) = false
      rw [hn]; rfl
    have h2 : (FloatKind.f64.format.order (floatOfInt .f64 b) nb == some .eq) = false := by
      show (Ieee.double.order _ _ == _) = false
      rw [hn]; rfl
    clear hm hn
    go_enter Tryz.func16, Tryz.ntmps16
    go_wp2
    go_ret
    exact ⟨by simp, below_drewN (Below.refl _ _) 1⟩

/-- What the document's Write answers, as far as its length goes. -/
theorem refWrite_len (t : TxD) (cs : List Value) (w : World) (hs : SeesTx w cs t) (hg : t.good) :
    Calls Tryz.prog 28 #[.agg cs.toArray] w fun r w' => ∃ a c, r = .returned (.tuple #[.slice a (szT t) c, .int .i64 (if txOk t then 0 else 40)]) ∧ Below w.heap.size w w' := by
  obtain ⟨rc, rfl, hr⟩ := hs
  refine (refWrite_any t rc w hr hg).mono ?_
  rintro _ w1 ⟨v, rfl, hv, b⟩
  obtain ⟨vb, vc, rfl, _⟩ := Sees.own hv
  have e : szT t = (if txOk t then txB t else []).length := by unfold szT; cases txOk t <;> rfl
  rw [e]
  exact ⟨vb, vc, rfl, b⟩

set_option maxHeartbeats 2000000 in
theorem refSize_any (v : Value) (l : List TxD) (w : World) (h : SeesTxs w v l) (hg : ∀ t ∈ l, t.good) (hl : l.length ≤ 1000000) :
    Calls Tryz.prog 14 #[v] w fun r w' => r = .returned (.int .i64 (szL l)) ∧ Below w.heap.size w w' := by
  obtain ⟨ao, cap, rfl, hlc, hcm⟩ := txs_shape h
  have H : Hid (SeesTxs w (.slice ao l.length cap) l ∧ (∀ t ∈ l, t.good)) := ⟨h, hg⟩
  unfold maxLen at hcm
  clear h hg
  go_enter Tryz.func14, Tryz.ntmps14
  go_wp2_with fail
  go_loopw [3, 4, 5, 6] (fun n i _ _ wr => ∃ k : Nat, k ≤ l.length ∧ i = .int .i64 k ∧ n = .int .i64 (szL (l.take k)) ∧ Hid (Below w.heap.size w wr)) (fun _ i _ _ _ => l.length - (intOf i).toNat)
  case atStart => exact ⟨0, Nat.zero_le _, rfl, rfl, Below.refl _ _⟩
  case round =>
    obtain ⟨k, hk, rfl, rfl, HB⟩ := hrel
    by_cases hlt : k < l.length
    · obtain ⟨b, off, cap', cs, hv, hs, hc16, l0⟩ := txs_row (H.out.1.below HB.out (Nat.le_refl _)) k hlt
      simp at hv
      obtain ⟨rfl, rfl⟩ := hv
      have q16 : (Tryz.prog.info? 49).map (·.size) = some cs.length := by rw [hc16]; exact tx_size
      have HX : Hid (SeesTx wr cs l[k] ∧ l[k].good) := ⟨hs, H.out.2 _ (List.getElem_mem hlt)⟩
      have HN : Hid (szL (l.take (k + 1)) = szL (l.take k) + szT l[k] ∧ szL (l.take k) ≤ 4096 * k ∧ szT l[k] ≤ 4096 ∧ (txOk l[k] = false → szT l[k] = 0)) := ⟨szL_next l k hlt, szL_take l k, szT_le _, fun h => by unfold szT; rw [h]; rfl⟩
      clear hs
      go_wp2_with (refine wpList_load_mid rfl 49 _ rfl b (off + k * 16) rfl cs _ l0 Tryz.underlying49 rfl q16 ?_)
      refine (refWrite_len l[k] cs _ HX.out.1 HX.out.2).mono ?_
      rintro _ w2 ⟨va, vc, rfl, b2⟩
      have HB2 : Hid (Below w.heap.size w w2) := HB.out.trans (b2.mono HB.out.size)
      clear l0 b2 HX
      generalize l[k] = t at *
      obtain ⟨m, hm⟩ : ∃ m, m = szL (l.take k) := ⟨_, rfl⟩
      obtain ⟨m', hm'⟩ : ∃ m', m' = szT t := ⟨_, rfl⟩
      rw [← hm, ← hm'] at HN
      rw [← hm, ← hm']
      clear hm hm'
      have hn1 := HN.out.2.1
      have hn2 := HN.out.2.2.1
      cases hok : txOk t with
      | true =>
        go_wp2_with fail
        go_roundw
        case rel => exact ⟨k + 1, by omega, by go_num, by rw [HN.out.1]; go_num, HB2⟩
        case measure => simp [intOf]; omega
      | false =>
        have HZ : Hid (m' = 0) := HN.out.2.2.2 hok
        go_wp2_with fail
        go_roundw
        case rel => exact ⟨k + 1, by omega, by go_num, by rw [HN.out.1, HZ.out]; rfl, HB2⟩
        case measure => simp [intOf]; omega
    · obtain rfl : k = l.length := by omega
      rw [List.take_length]
      go_wp2_with fail
      go_ret
      exact ⟨rfl, HB.out⟩
end Go.Proofs.YtobnggkgpenmfaaGreatDoor

/- A list that rises does so from each place; a part of a list, as Go cuts it. No Go function is walked here. -/
namespace Go.Proofs.YtobnggkgpenmfaaGreatDoor
open Go.RowKit
set_option maxRecDepth 8000

theorem rises_drop : ∀ (l : List TxD) (e n : Int) (k : Nat) (hk : k < l.length), rises e n l = true → rises l[k].ep l[k].n (l.drop (k + 1)) = true ∧ rises e n (l.take k) = true ∧ (e < l[k].ep ∨ (e = l[k].ep ∧ n < l[k].n))
  | [], _, _, k, hk, _ => by simp at hk
  | t :: l, e, n, k, hk, h => by
    simp only [rises, Bool.and_eq_true, decide_eq_true_eq] at h
    have hc : e < t.ep ∨ (e = t.ep ∧ n < t.n) := by
      have := h.1
      unfold zcmp at this
      split at this
      · omega
      · split at this <;> omega
    cases k with
    | zero => exact ⟨by simpa using h.2, rfl, hc⟩
    | succ k =>
      obtain ⟨h1, h2, h3⟩ := rises_drop l t.ep t.n k (by simpa using hk) h.2
      refine ⟨by simpa using h1, ?_, ?_⟩
      · simp only [List.take_succ_cons, rises, Bool.and_eq_true, decide_eq_true_eq]
        exact ⟨h.1, h2⟩
      · simp only [List.getElem_cons_succ]
        omega

/-- A part of a list, as Go cuts it. -/
theorem seesTxs_cut {w : World} {ao : Option Addr} {l : List TxD} {cap : Nat} (h : SeesTxs w (.slice ao l.length cap) l) (lo hi : Nat) (h1 : lo ≤ hi) (h2 : hi ≤ l.length) : SeesTxs w (sliced ao lo hi cap 16) ((l.take hi).drop lo) := by
  obtain ⟨cs, ⟨ao', cap', e, g1, g2, g0, g3⟩, hl, hs⟩ := h
  simp at e
  obtain ⟨rfl, _, rfl⟩ := e
  have hlen : ((cs.take hi).drop lo).length = hi - lo := by simp; omega
  refine ⟨(cs.take hi).drop lo, ?_, by simp [hl], fun i hi' hk => ?_⟩
  · unfold sliced
    by_cases hc : cap = lo
    · rw [if_pos hc]
      have : (cs.take hi).drop lo = [] := List.eq_nil_of_length_eq_zero (by rw [hlen]; omega)
      exact ⟨ao, cap - lo, by rw [hlen], by rw [hlen]; omega, by omega, fun _ => by omega, .inl this⟩
    · rw [if_neg hc]
      refine ⟨_, cap - lo, by rw [hlen], by rw [hlen]; omega, by omega, fun e => ?_, ?_⟩
      · cases ao with
        | none => have := g0 rfl; omega
        | some a => simp at e
      · rcases g3 with g3 | ⟨b, off, rfl, g3⟩
        · exact .inl (by rw [g3]; simp)
        · refine .inr ⟨b, off + lo * 16, by simp [Addr.add], fun i hi' j hj => ?_⟩
          rw [hlen] at hi'
          have := g3 (lo + i) (by omega) j hj
          rw [show off + lo * 16 + i * 16 + j = off + (lo + i) * 16 + j by rw [Nat.add_mul]; omega, this]
          simp [List.getElem_drop, List.getElem_take]
  · simp only [List.getElem_drop, List.getElem_take]
    exact hs (lo + i) (by simp at hi'; omega) (by simp at hk; omega)
end Go.Proofs.YtobnggkgpenmfaaGreatDoor
