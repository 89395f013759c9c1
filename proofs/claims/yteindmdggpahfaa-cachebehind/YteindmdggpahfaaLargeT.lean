/- Parts, Large and LargeTxns of lagoonref00. -/
import Derived.Test.YteindmdggpahfaaParts
namespace Go.Proofs.Yteindmdggpahfaa
open Go.RowKit
set_option maxRecDepth 8000

set_option maxHeartbeats 400000 in
theorem bigParts_any (r : Rq) (cs : List Value) (w : World) (h : SeesRq w cs r) (hg : r.good) :
    Calls Try.prog 16 #[.agg cs.toArray] w fun e w' => ∃ m : Nat, e = .returned (.int .i64 m) ∧ m ≤ 500000000000000 ∧ 0 < m ∧ (m ≤ 20000 → m = r.parts) ∧ Below w.heap.size w w' := by
  have HX : Hid (∀ W : World, Below w.heap.size w W → Calls Try.prog 27 #[.agg cs.toArray, .int .i64 ((0 : Nat) : Int)] W fun e w' => ∃ m : Nat, e = .returned (.int .i64 m) ∧ m ≤ 500000000000000 ∧ 0 < m ∧ (m ≤ 20000 → m = 0 + r.parts) ∧ Below W.heap.size W w') := fun W hW =>
    parts_any r cs 0 W (h.later hW (Nat.le_refl _)) hg (by omega)
  obtain ⟨q0, q1, d0, d1, d2, a0, a1, a2, q4, q5, q6, q7, q8, e0, e1, e2, o0, o1, o2, rfl⟩ := rq_forms h
  have hB := one_alloc w
  clear h hg
  go_enter Try.func16, Try.ntmps16
  go_wp2_with fail
  refine (HX.out _ (hB _)).mono ?_
  rintro e w1 ⟨m, rfl, h1, h2, h3, b⟩
  have HF : Hid ((m ≤ 20000 → m = r.parts) ∧ Below w.heap.size w w1) := ⟨fun h => by have := h3 h; omega, (hB _).trans (b.mono (by simp))⟩
  clear h3 b hB
  go_wp2
  go_ret
  exact ⟨m, rfl, h1, h2, HF.out.1, HF.out.2⟩

set_option maxHeartbeats 400000 in
theorem large_any (r : Rq) (cs : List Value) (w : World) (h : SeesRq w cs r) (hg : r.good) :
    Calls Try.prog 15 #[.agg cs.toArray] w fun e w' => ∃ b : Bool, e = .returned (.bool b) ∧ (b = false → r.parts ≤ 20000) ∧ Below w.heap.size w w' := by
  have HX : Hid (∀ W : World, Below w.heap.size w W → Calls Try.prog 16 #[.agg cs.toArray] W fun e w' => ∃ m : Nat, e = .returned (.int .i64 m) ∧ m ≤ 500000000000000 ∧ 0 < m ∧ (m ≤ 20000 → m = r.parts) ∧ Below W.heap.size W w') := fun W hW =>
    bigParts_any r cs W (h.later hW (Nat.le_refl _)) hg
  obtain ⟨q0, q1, d0, d1, d2, a0, a1, a2, q4, q5, q6, q7, q8, e0, e1, e2, o0, o1, o2, rfl⟩ := rq_forms h
  have hB := one_alloc w
  clear h hg
  go_enter Try.func15, Try.ntmps15
  go_wp2_with fail
  refine (HX.out _ (hB _)).mono ?_
  rintro e w1 ⟨m, rfl, h1, h2, h3, b⟩
  have HF : Hid ((m ≤ 20000 → m = r.parts) ∧ Below w.heap.size w w1) := ⟨h3, (hB _).trans (b.mono (by simp))⟩
  clear h3 b hB
  go_wp2
  go_ret
  refine ⟨_, rfl, fun h => ?_, HF.out.2⟩
  simp at h
  have := HF.out.1 (by omega)
  omega

/-- A transaction of a list, its cells. -/
theorem txs_at {w : World} {v : Value} {l : List TxD} (h : SeesTxs w v l) (k : Nat) (hk : k < l.length) : ∃ b off cap rc, v = .slice (some ⟨b, off, none⟩) l.length cap ∧ l.length ≤ cap ∧ cap ≤ maxLen ∧ SeesRq w rc l[k].rq ∧ ∀ j, j < 16 → w.cell? ⟨b, off + k * 16 + j, none⟩ = some ((txHead l[k] ++ rc).getD j (.bool false)) := by
  obtain ⟨cs, ⟨ao, cap, rfl, h1, h2, h0, h3⟩, hl, hs⟩ := h
  rcases h3 with h3 | ⟨b, off, rfl, h3⟩
  · have : cs.length = 0 := by rw [h3]; rfl
    omega
  · obtain ⟨rc, e, hr⟩ := hs k (by omega) hk
    refine ⟨b, off, cap, rc, by rw [hl], by omega, h2, hr, fun j hj => ?_⟩
    rw [h3 k (by omega) j hj, e]

theorem txs_shape {w : World} {v : Value} {l : List TxD} (h : SeesTxs w v l) : ∃ a c, v = .slice a l.length c ∧ l.length ≤ c ∧ c ≤ maxLen := by
  obtain ⟨cs, ⟨ao, cap, rfl, h1, h2, _⟩, hl, _⟩ := h
  exact ⟨ao, cap, by rw [hl], by omega, h2⟩

set_option maxHeartbeats 2000000 in
theorem largeTxns_any (v : Value) (l : List TxD) (w : World) (h : SeesTxs w v l) (hg : ∀ t ∈ l, t.good) :
    Calls Try.prog 5 #[v] w fun e w' => ∃ b : Bool, e = .returned (.bool b) ∧ (b = false → l.length ≤ 1000000 ∧ ∀ t ∈ l, t.rq.parts ≤ 20000) ∧ Below w.heap.size w w' := by
  obtain ⟨ao, cap, rfl, hlc, hcm⟩ := txs_shape h
  have H : Hid (SeesTxs w (.slice ao l.length cap) l ∧ ∀ t ∈ l, t.good) := ⟨h, hg⟩
  unfold maxLen at hcm
  clear h hg
  go_enter Try.func5, Try.ntmps5
  go_wp2_with fail
  go_loopw [3, 4] (fun nn i wr => ∃ k m : Nat, k ≤ l.length ∧ i = .int .i64 k ∧ nn = .int .i64 m ∧ m ≤ 600000000000000 ∧ k ≤ m ∧ (∀ t ∈ l.take k, t.rq.parts ≤ 20000) ∧ Below w.heap.size w wr) (fun _ i _ => l.length - (intOf i).toNat)
  case atStart => exact ⟨0, 0, Nat.zero_le _, rfl, rfl, by omega, by omega, fun t ht => by simp at ht, Below.refl _ _⟩
  case round =>
    obtain ⟨k, m, hk, rfl, rfl, hm1, hm2, hall, hbel⟩ := hrel
    have HA : Hid (∀ t ∈ l.take k, t.rq.parts ≤ 20000) := hall
    have HB : Hid (Below w.heap.size w wr) := hbel
    clear hall hbel
    by_cases hlt : k < l.length
    · by_cases hm : m ≤ 1000000
      · obtain ⟨b, off, cap', rc, hv, _, _, hr, hat⟩ := txs_at (H.out.1.below HB.out (Nat.le_refl _)) k hlt
        simp at hv
        obtain ⟨rfl, rfl⟩ := hv
        have hgk := (H.out.2 l[k] (List.getElem_mem hlt)).rq
        have HX : Hid (∀ W : World, Below wr.heap.size wr W → (Calls Try.prog 15 #[.agg rc.toArray] W fun e w' => ∃ b : Bool, e = .returned (.bool b) ∧ (b = false → l[k].rq.parts ≤ 20000) ∧ Below W.heap.size W w') ∧
            (Calls Try.prog 16 #[.agg rc.toArray] W fun e w' => ∃ m : Nat, e = .returned (.int .i64 m) ∧ m ≤ 500000000000000 ∧ 0 < m ∧ (m ≤ 20000 → m = l[k].rq.parts) ∧ Below W.heap.size W w') ∧
            ∀ j, j < 16 → W.cell? ⟨b, off + k * 16 + j, none⟩ = some ((txHead l[k] ++ rc).getD j (.bool false))) := fun W hW =>
          ⟨large_any l[k].rq rc W (hr.later hW (Nat.le_refl _)) hgk, bigParts_any l[k].rq rc W (hr.later hW (Nat.le_refl _)) hgk, fun j hj => cell_later (hat j hj) hW (Nat.le_refl _)⟩
        obtain ⟨q0, q1, d0, d1, d2, a0, a1, a2, q4, q5, q6, q7, q8, e0, e1, e2, o0, o1, o2, rfl⟩ := rq_forms hr
        have HT : Hid (∀ t ∈ l.take (k + 1), t.rq.parts ≤ 20000 ∨ t = l[k]) := fun t ht => by
          rw [List.take_succ_eq_append_getElem hlt] at ht
          rcases List.mem_append.1 ht with ht | ht
          · exact .inl (HA.out t ht)
          · simp at ht; exact .inr ht
        clear hat hr hgk
        have hh : txHead l[k] = [.int .u32 l[k].ep, .int .u32 l[k].n, .int .i8 l[k].srv, .int .u32 l[k].boot, .int .i64 l[k].num] := rfl
        rw [hh] at HX
        generalize l[k] = t at *
        have hat := (HX.out _ (Below.refl _ _)).2.2
        have g0 : wr.cell? ⟨b, off + k * 16 + 5, none⟩ = some (.int .i8 q0) := hat 5 (by omega)
        have g1 : wr.cell? ⟨b, off + k * 16 + 6, none⟩ = some (.string q1) := hat 6 (by omega)
        have g2 : wr.cell? ⟨b, off + k * 16 + 7, none⟩ = some (.slice d0 d1 d2) := hat 7 (by omega)
        have g3 : wr.cell? ⟨b, off + k * 16 + 8, none⟩ = some (.slice a0 a1 a2) := hat 8 (by omega)
        have g4 : wr.cell? ⟨b, off + k * 16 + 9, none⟩ = some (.int .i32 q4) := hat 9 (by omega)
        have g5 : wr.cell? ⟨b, off + k * 16 + 10, none⟩ = some (.bool q5) := hat 10 (by omega)
        have g6 : wr.cell? ⟨b, off + k * 16 + 11, none⟩ = some (.bool q6) := hat 11 (by omega)
        have g7 : wr.cell? ⟨b, off + k * 16 + 12, none⟩ = some (.int .i64 q7) := hat 12 (by omega)
        have g8 : wr.cell? ⟨b, off + k * 16 + 13, none⟩ = some (.int .i32 q8) := hat 13 (by omega)
        have g9 : wr.cell? ⟨b, off + k * 16 + 14, none⟩ = some (.slice e0 e1 e2) := hat 14 (by omega)
        have g10 : wr.cell? ⟨b, off + k * 16 + 15, none⟩ = some (.slice o0 o1 o2) := hat 15 (by omega)
        clear hat hh
        go_wp2_with fail
        refine (HX.out _ (Below.refl _ _)).1.mono ?_
        rintro e w5 ⟨bb, rfl, hbb, hb5⟩
        have hat := (HX.out _ hb5).2.2
        have g0 : w5.cell? ⟨b, off + k * 16 + 5, none⟩ = some (.int .i8 q0) := hat 5 (by omega)
        have g1 : w5.cell? ⟨b, off + k * 16 + 6, none⟩ = some (.string q1) := hat 6 (by omega)
        have g2 : w5.cell? ⟨b, off + k * 16 + 7, none⟩ = some (.slice d0 d1 d2) := hat 7 (by omega)
        have g3 : w5.cell? ⟨b, off + k * 16 + 8, none⟩ = some (.slice a0 a1 a2) := hat 8 (by omega)
        have g4 : w5.cell? ⟨b, off + k * 16 + 9, none⟩ = some (.int .i32 q4) := hat 9 (by omega)
        have g5 : w5.cell? ⟨b, off + k * 16 + 10, none⟩ = some (.bool q5) := hat 10 (by omega)
        have g6 : w5.cell? ⟨b, off + k * 16 + 11, none⟩ = some (.bool q6) := hat 11 (by omega)
        have g7 : w5.cell? ⟨b, off + k * 16 + 12, none⟩ = some (.int .i64 q7) := hat 12 (by omega)
        have g8 : w5.cell? ⟨b, off + k * 16 + 13, none⟩ = some (.int .i32 q8) := hat 13 (by omega)
        have g9 : w5.cell? ⟨b, off + k * 16 + 14, none⟩ = some (.slice e0 e1 e2) := hat 14 (by omega)
        have g10 : w5.cell? ⟨b, off + k * 16 + 15, none⟩ = some (.slice o0 o1 o2) := hat 15 (by omega)
        have HB5 : Hid (Below wr.heap.size wr w5) := hb5
        have HBB : Hid (bb = false → t.rq.parts ≤ 20000) := hbb
        clear hat hb5 hbb
        cases bb
        · go_wp2_with fail
          refine (HX.out _ HB5.out).2.1.mono ?_
          rintro e w6 ⟨m', rfl, hm1', hm2', _, hb6⟩
          have HB6 : Hid (Below w.heap.size w w6) := (HB.out.trans (HB5.out.mono HB.out.size)).trans (hb6.mono ((HB.out.trans (HB5.out.mono HB.out.size)).size))
          clear hb6 HX g0 g1 g2 g3 g4 g5 g6 g7 g8 g9 g10
          go_wp2_with fail
          go_roundw
          case rel => exact ⟨k + 1, m + 1 + m', by omega, by go_num, by go_num, by omega, by omega, fun t' ht' => by
            rcases HT.out t' ht' with h | h
            · exact h
            · subst h; exact HBB.out (by trivial), HB6.out⟩
          case measure => simp [intOf]; omega
        · go_wp2_with fail
          go_ret
          exact ⟨true, rfl, fun h => (by cases h), HB.out.trans (HB5.out.mono HB.out.size)⟩
      · have hm' : decide ((m : Int) ≤ 1000000) = false := by simp; omega
        go_wp2_with fail
        go_ret
        refine ⟨_, rfl, fun h => ?_, HB.out⟩
        simp at h
        omega
    · obtain rfl : k = l.length := by omega
      go_wp2_with fail
      go_ret
      refine ⟨_, rfl, fun h => ?_, HB.out⟩
      simp at h
      have := HA.out
      rw [List.take_length] at this
      exact ⟨by omega, this⟩
end Go.Proofs.Yteindmdggpahfaa
